package tests

import (
	"fmt"
	"regexp"
	"slices"
	"strings"
	"testing"
	"time"

	"loop.example/g00569/impl"
)

var knownWords = map[int64]string{
	impl.OpAdd: "add", impl.OpDrop: "drop", impl.OpFetch: "fetch", impl.OpRead: "read", impl.OpUnread: "unread",
	impl.OpStar: "star", impl.OpUnstar: "unstar", impl.OpAll: "all", impl.OpPurge: "purge",
}

// knownOpText writes an operation without asking whether it is right.
func knownOpText(o impl.Op) string {
	parts := []string{knownWords[o.Kind]}
	switch o.Kind {
	case impl.OpFetch:
		parts = append(parts, knownFeedText(o.Feed))
	case impl.OpPurge:
		_, date := knownDate(o.Day)
		parts = append(parts, date)
	case impl.OpRead, impl.OpUnread, impl.OpStar, impl.OpUnstar:
		parts = append(parts, o.Url, o.Id)
	default:
		parts = append(parts, o.Url)
	}
	return strings.Join(parts, " ")
}

var (
	feedForm  = regexp.MustCompile(`\A(add|drop|all) [!-~]{1,20}\z`)
	entryForm = regexp.MustCompile(`\A(read|unread|star|unstar) [!-~]{1,20} [!-~]{1,8}\z`)
	purgeForm = regexp.MustCompile(`\Apurge ([0-9]{4}-[0-9]{2}-[0-9]{2})\z`)
)

// isOpText asks patterns and the library's calendar; of feeds there is nothing to be said here but what ReadFeed says.
func isOpText(s string) bool {
	if feed, found := strings.CutPrefix(s, "fetch "); found {
		_, ok := impl.ReadFeed(feed)
		return ok
	}
	if m := purgeForm.FindStringSubmatch(s); m != nil {
		at, err := time.Parse("2006-01-02", m[1])
		return err == nil && at.Unix() >= 0 && at.Unix() <= impl.MaxDay*24*60*60
	}
	return feedForm.MatchString(s) || entryForm.MatchString(s)
}

func checkOpText(t *testing.T, o impl.Op, want string) {
	t.Helper()
	if got := opText(t, o); got != want {
		t.Errorf("OpText(%+v) = %q, want %q", o, got, want)
	}
	if got, ok := readOp(t, want); !ok || !sameOp(got, o) {
		t.Errorf("ReadOp(%q) = %+v, %t, want %+v", want, got, ok, o)
	}
}

func checkNoOpText(t *testing.T, s string) {
	t.Helper()
	if o, ok := readOp(t, s); ok || !sameOp(o, impl.Op{}) {
		t.Errorf("ReadOp(%q) = %+v, %t", s, o, ok)
	}
}

// checkWhatIsRead takes a text that may be an operation or not.
func checkWhatIsRead(t *testing.T, s string) {
	t.Helper()
	if !isOpText(s) {
		checkNoOpText(t, s)
		return
	}
	o, ok := readOp(t, s)
	if !ok || !opOk(t, o) || knownOpText(o) != s || opText(t, o) != s {
		t.Errorf("ReadOp(%q) = %+v, %t", s, o, ok)
	}
}

func TestOpTextAsTheDocumentSays(t *testing.T) {
	feed := impl.Feed{Url: "u&v", Title: `a "b"`, Items: []impl.Item{{Id: "2", Title: "x > y", Day: 20772}, {Id: "<1>", Title: "", Day: 0}}}
	text := `<feed url="u&amp;v"><title>a &quot;b&quot;</title><item id="2" date="2026-11-15">x &gt; y</item><item id="&lt;1&gt;" date="1970-01-01"></item></feed>`
	rows := []struct {
		o    impl.Op
		text string
	}{
		{addOf("http://a.example/f"), "add http://a.example/f"},
		{dropOf("u"), "drop u"},
		{allOf("u"), "all u"},
		{fetchOf(feed), "fetch " + text},
		{fetchOf(impl.Feed{Url: "u"}), `fetch <feed url="u"><title></title></feed>`},
		{markOf(impl.OpRead, "u", "1"), "read u 1"},
		{markOf(impl.OpUnread, "u", "1"), "unread u 1"},
		{markOf(impl.OpStar, "u", "1"), "star u 1"},
		{markOf(impl.OpUnstar, "u", "1"), "unstar u 1"},
		{purgeOf(0), "purge 1970-01-01"},
		{purgeOf(20772), "purge 2026-11-15"},
		{purgeOf(200000), "purge 2517-08-01"},
	}
	for _, row := range rows {
		checkOpText(t, row.o, row.text)
	}
}

func TestOpTextsAtTheirLimits(t *testing.T) {
	for _, url := range []string{"u", "~", "!", `"`, "&", strings.Repeat("u", 19), strings.Repeat("u", 20), strings.Repeat("<", 20)} {
		for _, id := range []string{"1", "~", "!", `"`, strings.Repeat("i", 7), strings.Repeat("i", 8), strings.Repeat(">", 8)} {
			for _, o := range rightOps(url, id) {
				checkOpText(t, o, knownOpText(o))
			}
		}
	}
}

// Names are Escaped in feeds alone: everywhere else they stand as they are.
func TestOpTextsWithEachByteOfNames(t *testing.T) {
	for c := byte(33); c <= 126; c++ {
		for _, name := range []string{string(c), "a" + string(c), string(c) + "a", string(c) + string(c)} {
			for _, o := range rightOps(name, name) {
				checkOpText(t, o, knownOpText(o))
			}
		}
	}
	for _, name := range []string{"add", "purge", "&amp;", "&amp", "&lt;x", "</feed>", `"><x`, "1970-01-", "[rs]"} {
		for _, o := range rightOps(name, name) {
			checkOpText(t, o, knownOpText(o))
		}
	}
}

func TestOpTextsOfFeeds(t *testing.T) {
	for n := range 13 {
		f := feedOf(n)
		checkOpText(t, fetchOf(f), "fetch "+knownFeedText(f))
		f.Title = ""
		for i := range f.Items {
			f.Items[i].Title = ""
		}
		checkOpText(t, fetchOf(f), "fetch "+knownFeedText(f))
		for i := range f.Items {
			f.Items[i].Id = `<&">` + f.Items[i].Id[2:]
			f.Items[i].Title = ` <a href="&amp;"> & `
		}
		f.Url, f.Title = `"&<>"`, strings.Repeat("&", 24)
		checkOpText(t, fetchOf(f), "fetch "+knownFeedText(f))
	}
	longest := longestFeed()
	checkOpText(t, fetchOf(longest), "fetch "+knownFeedText(longest))
	if n := len(impl.OpText(fetchOf(longest))); n != 3039 {
		t.Errorf("the longest text has %d bytes", n)
	}
}

func TestOpTextsOfDays(t *testing.T) {
	for day := int64(0); day <= impl.MaxDay; day += 37 {
		checkOpText(t, purgeOf(day), knownOpText(purgeOf(day)))
	}
	for _, day := range []int64{1, 58, 59, 364, 365, 789, 790, 11015, 11016, 11017, 199999, 200000} {
		checkOpText(t, purgeOf(day), knownOpText(purgeOf(day)))
	}
}

func TestRightOperationsComeBack(t *testing.T) {
	r := fixedRandom()
	for range 3000 {
		o := namedOp(r)
		if !impl.OpOk(o) {
			t.Fatalf("%+v is not right", o)
		}
		checkOpText(t, o, knownOpText(o))
	}
}

func TestOpTextRefuses(t *testing.T) {
	for why, o := range wrongOps() {
		if s := opText(t, o); s != "" {
			t.Errorf("%s: %q", why, s)
		}
		checkWhatIsRead(t, knownOpText(o))
	}
}

// otherTexts are made of the text of an operation; each is none, or another one.
func otherTexts(s string) []string {
	var out []string
	for i := range len(s) + 1 {
		out = append(out, s[:i], s[i:], s[:i]+" "+s[i:], s[:i]+"\n"+s[i:], s[:i]+"\x00"+s[i:], s[:i]+"a"+s[i:])
		if i < len(s) {
			out = append(out, s[:i]+s[i+1:], s[:i]+" "+s[i+1:], s[:i]+strings.ToUpper(s[i:i+1])+s[i+1:], s[:i]+"0"+s[i+1:])
		}
	}
	return append(out, s+s, s+" "+s, s+"\n"+s, s+" 1", s+"\r\n", s+"\t", "\t"+s, strings.ToUpper(s))
}

func TestOpTextsThatAreChanged(t *testing.T) {
	texts := map[string]bool{}
	for _, o := range append(rightOps("u", "1"), rightOps(strings.Repeat("u", 20), strings.Repeat("1", 8))...) {
		for _, s := range otherTexts(knownOpText(o)) {
			texts[s] = true
		}
	}
	for s := range texts {
		checkWhatIsRead(t, s)
	}
}

func TestTextsWithBlanksOrWordsThatAreNone(t *testing.T) {
	texts := []string{
		"", " ", "  ", "\n", "add", "add ", "add  ", " add u", "add  u", "add u ", "add u v", "add u  ", "addu", "add\tu", "add\nu", "add u\n", "add\x00u",
		"read", "read ", "read u", "read u ", "read  u 1", "read u  1", "read u 1 ", "read u 1 2", "read  1", "read u\t1", "read  ", "read   ", "readu 1", "read u1",
		"fly u", "Add u", "ADD u", "ad u", "addd u", "adds u", "unread u", "unstar u", "star u", "un read u 1", "un u", "u", "u add", "1 u", "0 u", "9 1970-01-01",
		" u", " u 1", " 1970-01-01", "remove u", "feed u", "all", "all ", "all u 1", "drop", "drop ", "drop u 1", "unread", "star", "fetch", "purge",
	}
	for _, word := range knownWords {
		texts = append(texts, word, word+" ", word+"  ", word+" \n", word+" "+word+" "+word+" "+word, word+"\x00u", word+" u v w")
	}
	for _, s := range texts {
		if isOpText(s) {
			t.Fatalf("%q is an operation", s)
		}
		checkNoOpText(t, s)
	}
}

func TestOpTextsWithNamesThatAreTooLong(t *testing.T) {
	url, id := strings.Repeat("u", 21), strings.Repeat("1", 9)
	for _, word := range []string{"add", "drop", "all"} {
		checkNoOpText(t, word+" "+url)
		checkNoOpText(t, word+" "+strings.Repeat("u", 1<<20))
	}
	for _, word := range []string{"read", "unread", "star", "unstar"} {
		checkNoOpText(t, word+" "+url+" 1")
		checkNoOpText(t, word+" u "+id)
		checkNoOpText(t, word+" u "+strings.Repeat("1", 1<<20))
	}
	for c := range 256 {
		if c < 33 || c > 126 {
			name := string([]byte{byte(c)})
			for _, o := range rightOps("u"+name, "1"+name) {
				if o.Kind != impl.OpPurge {
					checkNoOpText(t, knownOpText(o))
				}
			}
		}
	}
}

func TestPurgeTextsWithDatesThatThereAreNot(t *testing.T) {
	for _, date := range []string{
		"2026-02-30", "2026-02-29", "2100-02-29", "2026-13-01", "2026-00-01", "2026-01-00", "2026-04-31", "1969-12-31", "2517-08-02", "9999-12-31",
		"2026-1-01", "2026-01-1", "26-01-01", "02026-01-01", "2026/01/01", "20260101", "2026-01-01 ", " 2026-01-01", "2026-01-01T", "0", "20772", "-1", "+026-01-01", "2026-+1-01",
	} {
		checkNoOpText(t, "purge "+date)
	}
	checkOpText(t, purgeOf(19782), "purge 2024-02-29")
}

func TestFetchTextsThatAreNoFeeds(t *testing.T) {
	right := knownFeedText(feedOf(2))
	for _, s := range []string{
		"u", "", " ", right[1:], right[:len(right)-1], right + " ", " " + right, right + right, right + "\n",
		knownFeedText(feedOf(13)), knownFeedText(impl.Feed{}), knownFeedText(feedWith("u v", "", "1", "", 1)), knownFeedText(feedWithIds([]string{"b", "a"})),
		`<feed url="u"><title>&apos;</title></feed>`, `<feed url="u"><title>a"b</title></feed>`, `<feed url="u"><title></title><item id="1" date="2026-02-30"></item></feed>`,
		strings.Repeat("a", 4001), knownFeedText(longestFeed()) + strings.Repeat(" ", 2000),
	} {
		checkNoOpText(t, "fetch "+s)
	}
}

func TestOperationsThatAreReadShareNothing(t *testing.T) {
	o := fetchOf(feedOf(12))
	s := opText(t, o)
	for range 3 {
		// What is read is spoilt by readOp each time.
		if got, ok := readOp(t, s); !ok || !sameOp(got, o) {
			t.Errorf("what was read once is seen again: %+v", got)
		}
	}
}

// knownReaderText is made of the lines' parts in one list, feeds and entries alike.
func knownReaderText(r impl.Reader) string {
	var lines []string
	for _, s := range r.Subs {
		lines = append(lines, fmt.Sprintf("feed %s %s\n", s.Url, s.Title))
		for _, e := range s.Entries {
			_, date := knownDate(e.Item.Day)
			marks := map[[2]bool]string{{false, false}: "[]", {true, false}: "[r]", {false, true}: "[s]", {true, true}: "[rs]"}
			lines = append(lines, fmt.Sprintf("%s %s %s %s\n", date, e.Item.Id, marks[[2]bool{e.Read, e.Star}], e.Item.Title))
		}
	}
	return strings.Join(lines, "")
}

func checkReaderText(t *testing.T, r impl.Reader, want string, why string) {
	t.Helper()
	if got := readerText(t, r); got != want {
		t.Errorf("%s: %q, want %q", why, got, want)
	}
}

func TestReaderTextAsTheDocumentSays(t *testing.T) {
	r := readerOf(
		impl.Sub{Url: "a&b", Title: "T  x ", Entries: []impl.Entry{entryOf("1", 0, ""), entryOf("2", 20772, "r"), entryOf("3", 200000, "s"), entryOf("4", 59, "rs")}},
		impl.Sub{Url: "u"},
		impl.Sub{Url: "v", Title: "<v>", Entries: []impl.Entry{{Item: impl.Item{Id: `"`}}, {Item: impl.Item{Id: "["}, Read: true, Star: true}}},
	)
	want := "feed a&b T  x \n1970-01-01 1 [] t1\n2026-11-15 2 [r] t2\n2517-08-01 3 [s] t3\n1970-03-01 4 [rs] t4\n" +
		"feed u \nfeed v <v>\n1970-01-01 \" [] \n1970-01-01 [ [rs] \n"
	checkReaderText(t, r, want, "three feeds")
	checkReaderText(t, impl.Reader{}, "", "no feed")
	checkReaderText(t, impl.Reader{Subs: []impl.Sub{}}, "", "an empty list")
	checkReaderText(t, readerOf(impl.Sub{Url: "u"}), "feed u \n", "a feed without a title")
}

func TestReaderTextOfEachSize(t *testing.T) {
	for subs := range 7 {
		for entries := range 13 {
			r := wideReader(subs, entries)
			checkReaderText(t, r, knownReaderText(r), fmt.Sprintf("%d feeds with %d entries", subs, entries))
		}
	}
	checkReaderText(t, fullEdges(), knownReaderText(fullEdges()), "all limits met")
}

func TestReaderTextOfManyReaders(t *testing.T) {
	random := fixedRandom()
	var r impl.Reader
	for range 500 {
		if next, ok := impl.Done(r, randomOp(random)); ok {
			r = next
			checkReaderText(t, r, knownReaderText(r), "a reader")
		}
	}
}

func TestReaderTextRefuses(t *testing.T) {
	for why, r := range wrongReaders() {
		checkReaderText(t, r, "", why)
	}
	checkReaderText(t, readerOf(impl.Sub{}), "", "a zero feed")
}

// Readers that differ have texts that differ, so that a text can be held against another in their place.
func TestReaderTextsDiffer(t *testing.T) {
	var texts []string
	for _, marks := range []string{"", "r", "s", "rs"} {
		for _, day := range []int64{0, 1, 200000} {
			for _, id := range []string{"1", "2"} {
				texts = append(texts, readerText(t, readerOf(subOf("u", entryOf(id, day, marks)))))
			}
		}
	}
	slices.Sort(texts)
	if n := len(slices.Compact(texts)); n != 24 {
		t.Errorf("%d texts of 24 readers", n)
	}
}
