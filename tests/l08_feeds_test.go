package tests

import (
	"fmt"
	"math"
	"math/rand"
	"slices"
	"strings"
	"testing"

	"loop.example/g00569/impl"
)

const emptyFeedText = `<feed url="u"><title></title></feed>`

// knownEscapes stands for the four escapes, in the way of the standard library.
var knownEscapes = strings.NewReplacer("&", "&amp;", "<", "&lt;", ">", "&gt;", `"`, "&quot;")

func sameFeed(a impl.Feed, b impl.Feed) bool {
	return a.Url == b.Url && a.Title == b.Title && slices.Equal(a.Items, b.Items)
}

func noFeed(f impl.Feed) bool {
	return f.Url == "" && f.Title == "" && len(f.Items) == 0
}

// knownFeedText writes a feed without asking whether it is right.
func knownFeedText(f impl.Feed) string {
	out := `<feed url="` + knownEscapes.Replace(f.Url) + `"><title>` + knownEscapes.Replace(f.Title) + `</title>`
	for _, item := range f.Items {
		_, date := knownDate(item.Day)
		out += `<item id="` + knownEscapes.Replace(item.Id) + `" date="` + date + `">` + knownEscapes.Replace(item.Title) + `</item>`
	}
	return out + `</feed>`
}

func checkFeed(t *testing.T, f impl.Feed, why string) {
	t.Helper()
	text := impl.FeedText(f)
	if !impl.FeedOk(f) || text != knownFeedText(f) {
		t.Errorf("%s: %t, %q, want %q", why, impl.FeedOk(f), text, knownFeedText(f))
	}
	if got, ok := impl.ReadFeed(text); !ok || !sameFeed(got, f) {
		t.Errorf("%s: %+v comes back as %+v, %t", why, f, got, ok)
	}
}

// checkNoFeed asks, too, that what the feed would look like as a text is not read.
func checkNoFeed(t *testing.T, f impl.Feed, why string) {
	t.Helper()
	if impl.FeedOk(f) || impl.FeedText(f) != "" {
		t.Errorf("%s: %t, %q", why, impl.FeedOk(f), impl.FeedText(f))
	}
	checkNoFeedText(t, knownFeedText(f), why)
}

func checkNoFeedText(t *testing.T, s string, why string) {
	t.Helper()
	if f, ok := impl.ReadFeed(s); ok || !noFeed(f) {
		t.Errorf("%s: %q is read as %+v, %t", why, s, f, ok)
	}
}

// feedWith has one item, so that each field can be asked alone.
func feedWith(url string, title string, id string, itemTitle string, day int64) impl.Feed {
	return impl.Feed{Url: url, Title: title, Items: []impl.Item{{Id: id, Title: itemTitle, Day: day}}}
}

func feedOf(count int) impl.Feed {
	f := impl.Feed{Url: "http://a.example/f", Title: "A feed"}
	for i := range count {
		f.Items = append(f.Items, impl.Item{Id: fmt.Sprintf("id%03d", i), Title: fmt.Sprintf("item %d", i), Day: int64(i) * 17})
	}
	return f
}

func randomBytes(r *rand.Rand, least int, most int, first int) string {
	b := make([]byte, least+r.Intn(most-least+1))
	for i := range b {
		if r.Intn(3) == 0 {
			b[i] = `&<>"`[r.Intn(4)]
		} else {
			b[i] = byte(first + r.Intn(127-first))
		}
	}
	return string(b)
}

func randomFeed(r *rand.Rand) impl.Feed {
	f := impl.Feed{Url: randomBytes(r, 1, 20, 33), Title: randomBytes(r, 0, 24, 32)}
	var ids []string
	for range r.Intn(13) {
		ids = append(ids, randomBytes(r, 1, 8, 33))
	}
	slices.Sort(ids)
	for _, id := range slices.Compact(ids) {
		f.Items = append(f.Items, impl.Item{Id: id, Title: randomBytes(r, 0, 24, 32), Day: r.Int63n(impl.MaxDay + 1)})
	}
	return f
}

func TestEscaped(t *testing.T) {
	rows := [][2]string{
		{"", ""}, {"a", "a"}, {"&", "&amp;"}, {"<", "&lt;"}, {">", "&gt;"}, {`"`, "&quot;"}, {"'", "'"}, {";", ";"},
		{`a<b>&"c`, "a&lt;b&gt;&amp;&quot;c"}, {"&amp;", "&amp;amp;"}, {"&lt;", "&amp;lt;"}, {"&&", "&amp;&amp;"},
		{"\x00\n\x7f\x80\xff", "\x00\n\x7f\x80\xff"},
	}
	for _, row := range rows {
		if got := impl.Escaped(row[0]); got != row[1] {
			t.Errorf("Escaped(%q) = %q, want %q", row[0], got, row[1])
		}
		if got, ok := impl.Plain(row[1]); !ok || got != row[0] {
			t.Errorf("Plain(%q) = %q, %t, want %q", row[1], got, ok, row[0])
		}
	}
}

func TestEscapedOfEachByte(t *testing.T) {
	for c := range 256 {
		s := "a" + string([]byte{byte(c)}) + "b"
		got := impl.Escaped(s)
		if got != knownEscapes.Replace(s) {
			t.Errorf("Escaped(%q) = %q", s, got)
		}
		if back, ok := impl.Plain(got); !ok || back != s {
			t.Errorf("Plain(%q) = %q, %t, want %q", got, back, ok, s)
		}
		if marked := strings.IndexByte(`&<>"`, byte(c)) >= 0; marked {
			checkNotPlain(t, s)
		} else if back, ok := impl.Plain(s); !ok || back != s {
			t.Errorf("Plain(%q) = %q, %t", s, back, ok)
		}
	}
}

func TestWhatIsEscapedComesBack(t *testing.T) {
	r := fixedRandom()
	for n := range 201 {
		for _, s := range []string{randomText(r, n), randomBytes(r, n, n, 32), strings.Repeat("&", n), strings.Repeat(`"`, n), strings.Repeat("a", n)} {
			got := impl.Escaped(s)
			if got != knownEscapes.Replace(s) || strings.ContainsAny(got, `<>"`) {
				t.Errorf("Escaped(%q) = %q", s, got)
			}
			if strings.Count(got, "&") != strings.Count(got, "&amp;")+strings.Count(got, "&lt;")+strings.Count(got, "&gt;")+strings.Count(got, "&quot;") {
				t.Errorf("Escaped(%q) has an & alone: %q", s, got)
			}
			if back, ok := impl.Plain(got); !ok || back != s {
				t.Errorf("Plain(%q) = %q, %t, want %q", got, back, ok, s)
			}
		}
	}
}

func TestEscapedRefuses(t *testing.T) {
	for _, n := range []int{201, 202, 1200, 4000} {
		for _, c := range []string{"a", "&", `"`, "\x00"} {
			if got := impl.Escaped(strings.Repeat(c, n)); got != "" {
				t.Errorf("%d times %q: escaped to %d bytes, want none", n, c, len(got))
			}
		}
	}
}

func checkNotPlain(t *testing.T, s string) {
	t.Helper()
	if got, ok := impl.Plain(s); ok || got != "" {
		t.Errorf("Plain(%q) = %q, %t", s, got, ok)
	}
}

func TestPlainOfManyBytes(t *testing.T) {
	rows := [][2]string{
		{strings.Repeat("a", 1200), strings.Repeat("a", 1200)},
		{strings.Repeat("a", 1199), strings.Repeat("a", 1199)},
		{strings.Repeat("&quot;", 200), strings.Repeat(`"`, 200)},
		{strings.Repeat("&lt;", 300), strings.Repeat("<", 300)},
		{strings.Repeat("\xff", 1200), strings.Repeat("\xff", 1200)},
		{strings.Repeat("a", 1195) + "&amp;", strings.Repeat("a", 1195) + "&"},
	}
	for _, row := range rows {
		if got, ok := impl.Plain(row[0]); !ok || got != row[1] {
			t.Errorf("%d bytes: %d, %t, want %d", len(row[0]), len(got), ok, len(row[1]))
		}
	}
	for _, s := range []string{strings.Repeat("a", 1201), strings.Repeat("&quot;", 200) + "a", strings.Repeat("&lt;", 301), strings.Repeat("a", 1196) + "&amp;", strings.Repeat("a", 4000)} {
		checkNotPlain(t, s)
	}
}

func TestPlainRefuses(t *testing.T) {
	for _, s := range []string{
		"<", ">", `"`, "&", "a<", "<a", "a>b", `a"b`, "a&", "&a", "&&", "a & b", "&;", "&&amp;", "&amp;&", "&amp;<", "&lt;>", `&quot;"`,
		"&a", "&am", "&amp", "&l", "&lt", "&g", "&gt", "&q", "&qu", "&quo", "&quot", "&amp &lt;", "&lt&gt;",
		"&LT;", "&Lt;", "&AMP;", "&QUOT;", "&apos;", "&nbsp;", "&#38;", "&#x26;", "&#60;", "& amp;", "&amp ;", "& lt;", "&ltt;", "&llt;", "&\x00amp;",
		strings.Repeat("a", 1199) + "&", strings.Repeat("a", 1199) + "<", strings.Repeat("a", 1196) + "&amp",
	} {
		checkNotPlain(t, s)
	}
}

func TestPlainTakesOffOneEscapeAlone(t *testing.T) {
	for _, row := range [][2]string{{"&amp;lt;", "&lt;"}, {"&amp;amp;", "&amp;"}, {"&amp;amp;amp;", "&amp;amp;"}, {"&amp;quot;&quot;", `&quot;"`}, {"&lt;;", "<;"}, {"&amp;;", "&;"}} {
		if got, ok := impl.Plain(row[0]); !ok || got != row[1] {
			t.Errorf("Plain(%q) = %q, %t, want %q", row[0], got, ok, row[1])
		}
	}
}

func TestFeedTextAsTheDocumentSays(t *testing.T) {
	f := impl.Feed{Url: `a&b"c`, Title: "x < y", Items: []impl.Item{{Id: "1", Title: "one > none", Day: 0}, {Id: "<2>", Day: 20772}, {Id: "Z", Title: " ", Day: 200000}}}
	want := `<feed url="a&amp;b&quot;c"><title>x &lt; y</title>` +
		`<item id="1" date="1970-01-01">one &gt; none</item>` +
		`<item id="&lt;2&gt;" date="2026-11-15"></item>` +
		`<item id="Z" date="2517-08-01"> </item></feed>`
	if got := impl.FeedText(f); got != want {
		t.Errorf("FeedText = %q, want %q", got, want)
	}
	checkFeed(t, f, "the feed of the document")
	if got := impl.FeedText(impl.Feed{Url: "u"}); got != emptyFeedText {
		t.Errorf("FeedText = %q, want %q", got, emptyFeedText)
	}
}

func TestNamesAndTitlesAtTheirLimits(t *testing.T) {
	for _, n := range []int{1, 2, 19, 20} {
		checkFeed(t, feedWith(strings.Repeat("u", n), "t", "i", "t", 1), fmt.Sprintf("a Url of %d", n))
	}
	for _, n := range []int{1, 2, 7, 8} {
		checkFeed(t, feedWith("u", "t", strings.Repeat("i", n), "t", 1), fmt.Sprintf("an Id of %d", n))
	}
	for _, n := range []int{0, 1, 23, 24} {
		checkFeed(t, feedWith("u", strings.Repeat("t", n), "i", strings.Repeat("x", n), 1), fmt.Sprintf("titles of %d", n))
	}
	for _, n := range []int{0, 21, 22, 120, 201, 1300} {
		checkNoFeed(t, feedWith(strings.Repeat("u", n), "t", "i", "t", 1), fmt.Sprintf("a Url of %d", n))
	}
	for _, n := range []int{0, 9, 10, 20, 48, 201, 1300} {
		checkNoFeed(t, feedWith("u", "t", strings.Repeat("i", n), "t", 1), fmt.Sprintf("an Id of %d", n))
	}
	for _, n := range []int{25, 26, 144, 201, 1300} {
		checkNoFeed(t, feedWith("u", strings.Repeat("t", n), "i", "t", 1), fmt.Sprintf("a title of %d", n))
		checkNoFeed(t, feedWith("u", "t", "i", strings.Repeat("t", n), 1), fmt.Sprintf("an item's title of %d", n))
	}
}

// A limit counts the bytes of what is meant, not those of its escapes.
func TestLimitsCountPlainBytes(t *testing.T) {
	quotes := strings.Repeat(`"`, 25)
	checkFeed(t, feedWith(quotes[:20], quotes[:24], quotes[:8], quotes[:24], 1), "quotes")
	checkNoFeed(t, feedWith(quotes[:21], "t", "i", "t", 1), "a Url of 21 quotes")
	checkNoFeed(t, feedWith("u", quotes, "i", "t", 1), "a title of 25 quotes")
	checkNoFeed(t, feedWith("u", "t", quotes[:9], "t", 1), "an Id of 9 quotes")
	checkNoFeed(t, feedWith("u", "t", "i", quotes, 1), "an item's title of 25 quotes")
}

func TestEachByteWhereItIsAllowed(t *testing.T) {
	for c := range 256 {
		for _, s := range []string{string([]byte{byte(c)}), "a" + string([]byte{byte(c)}), string([]byte{byte(c)}) + "a"} {
			checkFields(t, s, c >= 33 && c <= 126, c >= 32 && c <= 126)
		}
	}
}

func checkFields(t *testing.T, s string, name bool, title bool) {
	t.Helper()
	check := func(f impl.Feed, right bool) {
		if why := fmt.Sprintf("with %q", s); right {
			checkFeed(t, f, why)
		} else {
			checkNoFeed(t, f, why)
		}
	}
	check(feedWith(s, "t", "i", "t", 1), name)
	check(feedWith("u", "t", s, "t", 1), name)
	check(feedWith("u", s, "i", "t", 1), title)
	check(feedWith("u", "t", "i", s, 1), title)
}

func TestBlanksInNames(t *testing.T) {
	for _, s := range []string{" ", " a", "a ", "a b", "  "} {
		checkFields(t, s, false, true)
	}
}

func TestDaysOfItems(t *testing.T) {
	for _, day := range []int64{0, 1, 789, 11016, 199999, 200000} {
		checkFeed(t, feedWith("u", "t", "i", "t", day), fmt.Sprintf("day %d", day))
	}
	for _, day := range []int64{-1, -2, 200001, 200002} {
		checkNoFeed(t, feedWith("u", "t", "i", "t", day), fmt.Sprintf("day %d", day))
	}
	for _, day := range []int64{math.MinInt64, math.MaxInt64, 1 << 32} {
		if f := feedWith("u", "t", "i", "t", day); impl.FeedOk(f) || impl.FeedText(f) != "" {
			t.Errorf("day %d: %q", day, impl.FeedText(f))
		}
	}
}

func TestHowManyItems(t *testing.T) {
	for n := range 13 {
		checkFeed(t, feedOf(n), fmt.Sprintf("%d items", n))
	}
	for _, n := range []int{13, 14, 24, 60} {
		checkNoFeed(t, feedOf(n), fmt.Sprintf("%d items", n))
	}
}

func TestIdsRise(t *testing.T) {
	rising := [][]string{{"a", "b"}, {"1", "10", "2"}, {"A", "a"}, {"a", "aa"}, {"!", "~"}, {`"`, "&", "<", ">"}, {"1", "2", "3"}}
	for _, ids := range rising {
		checkFeed(t, feedWithIds(ids), fmt.Sprintf("the Ids %q", ids))
		slices.Reverse(ids)
		checkNoFeed(t, feedWithIds(ids), fmt.Sprintf("the Ids %q", ids))
	}
	for _, ids := range [][]string{{"a", "a"}, {"a", "b", "b"}, {"a", "a", "b"}, {"a", "b", "a"}, {"a", "c", "b"}, {"b", "a", "c"}, {"a", ""}, {"", "a"}, {"aa", "a"}, {"2", "10"}} {
		checkNoFeed(t, feedWithIds(ids), fmt.Sprintf("the Ids %q", ids))
	}
	for i := range 11 {
		f := feedOf(12)
		f.Items[i], f.Items[i+1] = f.Items[i+1], f.Items[i]
		checkNoFeed(t, f, fmt.Sprintf("items %d and %d change places", i, i+1))
		f.Items[i].Id = f.Items[i+1].Id
		checkNoFeed(t, f, fmt.Sprintf("items %d and %d are alike", i, i+1))
	}
}

func feedWithIds(ids []string) impl.Feed {
	f := impl.Feed{Url: "u", Title: "t"}
	for _, id := range ids {
		f.Items = append(f.Items, impl.Item{Id: id, Title: "t", Day: 1})
	}
	return f
}

// Each item is asked, not the first or the last alone.
func TestOneItemThatIsNotRight(t *testing.T) {
	for i := range 12 {
		for name, spoiled := range map[string]func(*impl.Item){
			"Id":    func(item *impl.Item) { item.Id += " " },
			"title": func(item *impl.Item) { item.Title += "\n" },
			"day":   func(item *impl.Item) { item.Day = -1 },
		} {
			f := feedOf(12)
			spoiled(&f.Items[i])
			checkNoFeed(t, f, fmt.Sprintf("the %s of item %d", name, i))
		}
	}
}

// longestFeed has the escapes that are longest, as far as rising Ids allow it.
func longestFeed() impl.Feed {
	quotes := strings.Repeat(`"`, 24)
	f := impl.Feed{Url: quotes[:20], Title: quotes}
	ids := []string{quotes[:8]}
	for i := range 8 {
		ids = append(ids, quotes[:i]+"&"+quotes[:7-i])
	}
	ids = append(ids, quotes[:7]+"<", quotes[:7]+">", quotes[:6]+"&&")
	slices.Sort(ids)
	for _, id := range ids {
		f.Items = append(f.Items, impl.Item{Id: id, Title: quotes, Day: impl.MaxDay})
	}
	return f
}

func TestTheLongestFeed(t *testing.T) {
	f := longestFeed()
	checkFeed(t, f, "the longest feed")
	if got := len(impl.FeedText(f)); len(f.Items) != 12 || got != 3033 {
		t.Errorf("the longest feed has %d items and %d bytes", len(f.Items), got)
	}
}

// No right feed has a text of 4000 bytes, so none of that many is read.
func TestReadFeedOfManyBytes(t *testing.T) {
	head, tail := `<feed url="u"><title>`, `</title></feed>`
	for _, n := range []int{3034, 3999, 4000, 4001, 8000} {
		checkNoFeedText(t, head+strings.Repeat("t", n-len(head)-len(tail))+tail, "a long title")
		checkNoFeedText(t, strings.Repeat(" ", n), "blanks")
		checkNoFeedText(t, emptyFeedText+strings.Repeat(" ", n-len(emptyFeedText)), "blanks behind")
	}
	f := feedOf(90)
	if n := len(knownFeedText(f)); n <= 4000 {
		t.Fatalf("the text has just %d bytes", n)
	}
	checkNoFeed(t, f, "90 items")
}

func TestRightFeedsComeBack(t *testing.T) {
	r := fixedRandom()
	for range 3000 {
		checkFeed(t, randomFeed(r), "a feed")
	}
}

func TestFeedTextsWithMoreOrLess(t *testing.T) {
	s := impl.FeedText(impl.Feed{Url: "a&b", Title: "x < y", Items: []impl.Item{{Id: "1", Title: "one"}, {Id: "2", Day: 20772}}})
	for _, more := range []string{" ", "\n", "a", "\x00", "<", s, emptyFeedText, "</feed>", "\xef\xbb\xbf", "<?xml?>"} {
		checkNoFeedText(t, more+s, "more ahead")
		checkNoFeedText(t, s+more, "more behind")
	}
	for i := range len(s) {
		checkNoFeedText(t, s[:i], "the beginning alone")
		checkNoFeedText(t, s[i+1:], "the end alone")
	}
	for _, mark := range []string{`<feed url="`, `">`, `<title>`, `</title>`, `<item id="`, `" date="`, `</item>`, `</feed>`} {
		checkNoFeedText(t, strings.Replace(s, mark, "", 1), "without "+mark)
		checkNoFeedText(t, strings.Replace(s, mark, mark+mark, 1), "twice "+mark)
		checkNoFeedText(t, strings.Replace(s, mark, knownEscapes.Replace(mark), 1), "escaped "+mark)
	}
}

func TestFeedTextsWrittenInAnotherWay(t *testing.T) {
	for _, s := range []string{
		`<feed url='u'><title></title></feed>`,
		`<FEED URL="u"><TITLE></TITLE></FEED>`,
		`<feed url="u"><Title></title></feed>`,
		`<feed url="u"><title></title></Feed>`,
		`<feed url="u"><title></title><item ID="1" date="2026-11-15"></item></feed>`,
		`<feed  url="u"><title></title></feed>`,
		`<feed url="u" ><title></title></feed>`,
		`<feed url="u"> <title></title></feed>`,
		`<feed url="u"><title/></feed>`,
		`<feed url="u"></feed>`,
		`<feed><title></title></feed>`,
		`<feed url="u"><title></title> </feed>`,
		`<feed url="u"><title></title></feed >`,
		`<feed url="u"><title></title><title></title></feed>`,
		`<feed url="u"><title></title></feed></feed>`,
		`<feed url=""><title></title></feed>`,
		`<feed url="u v"><title></title></feed>`,
		`<feed url="u"><title>a"b</title></feed>`,
		`<feed url="u"><title>a<b</title></feed>`,
		`<feed url="u"><title>a>b</title></feed>`,
		`<feed url="u"><title>a&b</title></feed>`,
		`<feed url="u"><title>&#97;</title></feed>`,
		`<feed url="u"><title>&apos;</title></feed>`,
		`<feed url="&#117;"><title></title></feed>`,
		`<feed url="u"><title></title><item id="1" date="2026-11-15"/></feed>`,
		`<feed url="u"><title></title><item date="2026-11-15" id="1"></item></feed>`,
		`<feed url="u"><title></title><item id="1"></item></feed>`,
		`<feed url="u"><title></title><item id="&#49;" date="2026-11-15"></item></feed>`,
		`<feed url="u"><title></title><item id="1" date="2026&#45;11-15"></item></feed>`,
		`<feed url="u"><title></title><item id="1" date="2026-11-15">&#97;</item></feed>`,
		`<feed url="u"><title></title><item id="1" date="2026-11-15"></item> <item id="2" date="2026-11-15"></item></feed>`,
		`<feed url="u"><item id="1" date="2026-11-15"></item><title></title></feed>`,
		`<feed url="u"><title></title></feed><item id="1" date="2026-11-15"></item>`,
		`<feed url="u"><title></title><item id="1" date="2026-11-15"><item id="2" date="2026-11-15"></item></item></feed>`,
	} {
		checkNoFeedText(t, s, "another way")
	}
}

func TestFeedTextsWithDatesThatAreNotRight(t *testing.T) {
	text := func(date string) string {
		return `<feed url="u"><title></title><item id="1" date="` + date + `"></item></feed>`
	}
	for _, date := range []string{"1970-01-01", "1972-02-29", "2026-11-30", "2517-08-01"} {
		want, _ := impl.ReadDate(date)
		if f, ok := impl.ReadFeed(text(date)); !ok || len(f.Items) != 1 || f.Items[0] != (impl.Item{Id: "1", Day: impl.DayOf(want)}) {
			t.Errorf("%s: %+v, %t", date, f, ok)
		}
	}
	for _, date := range []string{"", "0", "1969-12-31", "2026-02-29", "2100-02-29", "2026-11-31", "2026-13-01", "2026-00-01", "2026-01-00", "2026-1-01", "2026-01-01 ", " 2026-01-01", "2026/01/01", "2517-08-02", "9999-01-01", "-026-01-01", "20772"} {
		checkNoFeedText(t, text(date), "a date that is not right")
	}
}

// A text is read when it is that of a feed, and in no other spelling.
func TestFeedsHaveOneText(t *testing.T) {
	s := impl.FeedText(impl.Feed{Url: "a&b", Title: `x<">`, Items: []impl.Item{{Id: "1", Title: "&", Day: 789}, {Id: "<", Day: 20772}}})
	check := func(x string) {
		if f, ok := impl.ReadFeed(x); ok && (!impl.FeedOk(f) || impl.FeedText(f) != x) {
			t.Errorf("%q is read as %+v, which is %q", x, f, impl.FeedText(f))
		} else if !ok && !noFeed(f) {
			t.Errorf("%q is refused, with %+v", x, f)
		}
	}
	for i := range len(s) {
		check(s[:i] + s[i+1:])
		for c := range 256 {
			b := string([]byte{byte(c)})
			check(s[:i] + b + s[i:])
			check(s[:i] + b + s[i+1:])
		}
	}
}

func TestFeedsAreNotWrittenInto(t *testing.T) {
	for _, n := range []int{0, 1, 11, 12, 13} {
		f := feedOf(n)
		room := []impl.Item{{Id: "room", Title: "behind", Day: -7}, {Id: "more", Title: "room", Day: -8}}
		whole := slices.Concat(f.Items, room)
		want := slices.Clone(whole)
		f.Items = whole[:n]
		first := impl.FeedText(f)
		if impl.FeedOk(f) != (n <= 12) || impl.FeedText(f) != first || !slices.Equal(whole, want) {
			t.Errorf("a feed of %d items was written into, or has two texts", n)
		}
	}
}

func TestFeedsThatAreReadShareNothing(t *testing.T) {
	s := impl.FeedText(feedOf(12))
	one, _ := impl.ReadFeed(s)
	for i := range one.Items {
		one.Items[i] = impl.Item{Id: "spoilt"}
	}
	if two, ok := impl.ReadFeed(s); !ok || !sameFeed(two, feedOf(12)) {
		t.Errorf("what was read once is seen again: %+v", two)
	}
}
