package tests

import (
	"fmt"
	"math/rand"
	"slices"
	"strings"
	"sync"
	"testing"

	"loop.example/g00569/impl"
)

// A saidLine is a line, and what it says behind all lines above it: "" where that is nothing.
type saidLine struct {
	line string
	said string
}

func checkDialogue(t *testing.T, rows []saidLine, why string) {
	t.Helper()
	text, want := "", ""
	for _, row := range rows {
		text += row.line + "\n"
		if row.said != "" {
			want += row.said + "\n"
		}
	}
	checkSaid(t, text, want, why)
	checkScript(t, text, why)
}

// checkEachSaid asks each line alone behind the news.
func checkEachSaid(t *testing.T, rows []saidLine, why string) {
	t.Helper()
	for _, row := range rows {
		text := scriptOf(append(newsLines(), row.line)...)
		checkSaid(t, text, "ok\nok\nok\nok\n"+row.said+"\n", why)
		checkScript(t, text, why)
	}
}

func TestScriptsAsTheDocumentSays(t *testing.T) {
	news := newsLines()
	checkDialogue(t, []saidLine{
		{"unread", "unread"}, {"new 9", "new"}, {"find news", "find"}, {"count u", "count 0 0 0"}, {"log", "log 0 0"},
		{news[0], "ok"}, {news[1], "ok"}, {news[2], "ok"}, {news[3], "ok"},
		{"unread", "unread u/2 v/1 u/1"}, {"new 2", "new u/2 v/1"}, {"find news", "find v/1 u/1"}, {"count u", "count 2 2 0"}, {"count v", "count 1 1 0"}, {"log", "log 568 4"},
		{"read u 2", "ok"}, {"star u 1", "ok"}, {"unread", "unread v/1 u/1"}, {"count u", "count 2 1 1"},
		{"all v", "ok"}, {"unread", "unread u/1"}, {"purge 2026-11-16", "ok"}, {"new 9", "new u/1"}, {"find two", "find"},
		{"unstar u 1", "ok"}, {"read u 1", "ok"}, {"unread u 1", "ok"}, {"unread", "unread u/1"}, {"drop u", "ok"}, {"log", "log 1320 12"},
	}, "a script of 30 lines")
	if impl.MaxScript != 30 || impl.MaxLines != 4000 {
		t.Errorf("the limits are %d and %d", impl.MaxScript, impl.MaxLines)
	}
}

func TestScriptsThatSayNothing(t *testing.T) {
	for _, text := range []string{"", "\n", " \n", "\n\n", "  \n \n\n", strings.Repeat(" ", 3999) + "\n", strings.Repeat("\n", 30), strings.Repeat("  \n", 30)} {
		checkSaid(t, text, "", "nothing")
	}
	for _, line := range []string{"\t", " \t", "\t ", "\r", " \r", "\v", "\f", "\x00", "\x1f", "\x7f", "\u00a0", "\u2003", "\xff", "\xa0", "."} {
		checkSaid(t, line+"\n", "what\n", "no blank")
		checkSaid(t, "\n"+line+"\n \n", "what\n", "no blank between blanks")
	}
}

// Behind the blank of find all is taken for what is to be found; in every other line a blank, or what is like one, spoils it.
func TestLinesWithBlanksThatDoNotStandSo(t *testing.T) {
	for _, line := range append(askingLines(), tellingLines()...) {
		word, behind, found := strings.Cut(line, " ")
		said := "what"
		if word == "find" {
			said = "find"
		}
		var rows []saidLine
		for _, more := range []string{" ", "  ", "\t", "\r", "\x00", " x", "x "} {
			rows = append(rows, saidLine{more + line, "what"})
		}
		for _, more := range []string{" ", "  ", "\t", "\r", "\x00", " x"} {
			rows = append(rows, saidLine{line + more, said})
		}
		if found {
			rows = append(rows, saidLine{word + "  " + behind, said}, saidLine{word + " \t" + behind, said}, saidLine{word + "\t" + behind, "what"}, saidLine{word + behind, "what"})
		}
		checkEachSaid(t, rows, line)
	}
}

func TestWordsAlone(t *testing.T) {
	for _, word := range []string{"new", "find", "count", "add", "drop", "fetch", "read", "star", "unstar", "all", "purge"} {
		for _, behind := range []string{"", " ", "\t", "\r", ":", "\x00"} {
			checkEachSaid(t, []saidLine{{word + behind, "what"}}, "a word with nothing behind it")
		}
	}
	checkEachSaid(t, []saidLine{
		{"unread ", "what"}, {"log ", "what"}, {"unread\t", "what"}, {"log\t", "what"}, {"new  ", "what"}, {"count  ", "what"}, {"find  ", "find"}, {"find   ", "find"},
		{"unread u", "what"}, {"unread u ", "what"}, {"log 1", "what"}, {"log log", "what"}, {"log u", "what"},
	}, "words alone")
}

// Words that begin with others, or that are the ends of others, are not taken for them.
func TestWordsThatAreLikeOthers(t *testing.T) {
	checkEachSaid(t, []saidLine{
		{"read u 1", "ok"}, {"unread u 1", "ok"}, {"unread", "unread u/2 v/1 u/1"}, {"read", "what"}, {"star u 1", "ok"}, {"unstar u 1", "ok"}, {"unstar", "what"}, {"all u", "ok"}, {"al u", "what"},
	}, "words as they are")
	var lines []string
	for _, line := range append(askingLines(), tellingLines()...) {
		word, behind, found := strings.Cut(line, " ")
		rest := ""
		if found {
			rest = " " + behind
		}
		for i := range word {
			lines = append(lines, word[:i]+rest, word[i+1:]+rest, word[:i+1]+word[i:]+rest)
		}
		lines = append(lines, strings.ToUpper(word)+rest, strings.ToUpper(word[:1])+word[1:]+rest, word+"s"+rest, "un"+word+rest, word+word+rest, word+rest+rest)
	}
	for _, word := range []string{"newest", "newer", "finds", "found", "counts", "logs", "logo", "unreads", "ask", "say", "sync", "what", "ok", "no", "too long", "vault", "open", "remove", "mark", "0", "1"} {
		lines = append(lines, word, word+" u", word+" 1", word+" u 1")
	}
	checkLines(t, newsLines(), lines, "other words")
}

func TestNumbersOfTheNewest(t *testing.T) {
	all := "new u/2 v/1 u/1"
	checkEachSaid(t, []saidLine{
		{"new 0", "new"}, {"new 1", "new u/2"}, {"new 2", "new u/2 v/1"}, {"new 3", all}, {"new 4", all}, {"new 10", all}, {"new 72", all},
		{"new 99999999", all}, {"new 100000000", all}, {"new 123456789", all}, {"new 999999999", all}, {"new 1000000000", "what"}, {"new 9999999999", "what"},
		{"new 00", "what"}, {"new 01", "what"}, {"new 000000001", "what"}, {"new 0000000001", "what"}, {"new -1", "what"}, {"new +1", "what"}, {"new -0", "what"}, {"new +0", "what"},
		{"new 1.", "what"}, {"new 1.0", "what"}, {"new 1e1", "what"}, {"new 0x1", "what"}, {"new 1_0", "what"}, {"new 1,000", "what"}, {"new a", "what"}, {"new 1a", "what"}, {"new a1", "what"},
		{"new 1 2", "what"}, {"new 1 ", "what"}, {"new  1", "what"}, {"new \t1", "what"}, {"new :", "what"}, {"new /", "what"}, {"new \u0661", "what"}, {"new " + strings.Repeat("0", 100), "what"}, {"new " + strings.Repeat("1", 3000), "what"},
		{"new 18446744073709551617", "what"}, {"new 4294967297", "what"},
	}, "numbers")
	for c := range 256 {
		if c != '\n' {
			b := string([]byte{byte(c)})
			checkLines(t, newsLines(), []string{"new " + b, "new 1" + b, "new " + b + "1", "new" + b + "1"}, "bytes of numbers")
		}
	}
}

func TestWordsThatScriptsFind(t *testing.T) {
	checkEachSaid(t, []saidLine{
		{"find news", "find v/1 u/1"}, {"find one", "find u/1"}, {"find two", "find u/2"}, {"find of", "find v/1"}, {"find v", "find v/1"},
		{"find none", "find"}, {"find new", "find"}, {"find ews", "find"}, {"find newss", "find"}, {"find News", "find"}, {"find u", "find"}, {"find 1", "find"}, {"find U", "find"},
		{"find one news", "find"}, {"find news of", "find"}, {"find news ", "find"}, {"find  news", "find"}, {"find news news", "find"}, {"find  ", "find"},
		{"find ", "what"}, {"find", "what"}, {"find find", "find"}, {"find \t", "find"}, {"find news\r", "find"}, {"find \x00", "find"}, {"find \xff\xfe", "find"}, {"find <", "find"},
		{"find " + strings.Repeat("n", 25), "find"}, {"find " + strings.Repeat("n", 3000), "find"},
	}, "words")
	marked := `fetch <feed url="u"><title></title><item id="1" date="2026-11-14">a &amp; b</item><item id="2" date="2026-11-14">&amp;amp;  x</item></feed>`
	checkDialogue(t, []saidLine{
		{"add u", "ok"}, {marked, "ok"}, {"find &", "find u/1"}, {"find &amp;", "find u/2"}, {"find a", "find u/1"}, {"find x", "find u/2"}, {"find  x", "find"}, {"find amp", "find"},
	}, "words with marks")
}

func TestNamesThatAreCounted(t *testing.T) {
	checkEachSaid(t, []saidLine{
		{"count u", "count 2 2 0"}, {"count v", "count 1 1 0"}, {"count w", "count 0 0 0"}, {"count U", "count 0 0 0"}, {"count 0", "count 0 0 0"}, {"count count", "count 0 0 0"}, {"count !", "count 0 0 0"}, {"count ~", "count 0 0 0"},
		{"count " + strings.Repeat("u", 19), "count 0 0 0"}, {"count " + strings.Repeat("u", 20), "count 0 0 0"}, {"count " + strings.Repeat("u", 21), "what"}, {"count " + strings.Repeat("u", 3000), "what"},
		{"count ", "what"}, {"count", "what"}, {"count  u", "what"}, {"count u ", "what"}, {"count u v", "what"}, {"count u 1", "what"}, {"count \x7f", "what"}, {"count \x1f", "what"}, {"count u\t", "what"}, {"count \u00fc", "what"},
	}, "names")
	long := strings.Repeat("~", 20)
	checkDialogue(t, []saidLine{{"add " + long, "ok"}, {"count " + long, "count 0 0 0"}, {`fetch <feed url="` + long + `"><title></title><item id="1" date="1970-01-01"></item></feed>`, "ok"}, {"count " + long, "count 1 1 0"}, {"count " + long[1:], "count 0 0 0"}}, "a name of 20")
	for c := range 256 {
		if c != '\n' {
			b := string([]byte{byte(c)})
			checkLines(t, newsLines(), []string{"count " + b, "count u" + b, "count " + b + "u", "count" + b + "u", "find " + b, "find news" + b, "find " + b + "news", "find" + b + "news"}, "bytes of names and words")
		}
	}
}

// The three numbers of a feed are told in their order, whichever marks its entries have.
func TestCountsWithEachMark(t *testing.T) {
	items := ""
	for i := range 9 {
		items += fmt.Sprintf(`<item id="%d" date="1970-01-01"></item>`, i)
	}
	rows := []saidLine{{"add u", "ok"}, {`fetch <feed url="u"><title></title>` + items + `</feed>`, "ok"}, {"count u", "count 9 9 0"}}
	for i := range 5 {
		rows = append(rows, saidLine{fmt.Sprintf("read u %d", i), "ok"}, saidLine{"count u", fmt.Sprintf("count 9 %d %d", 8-i, boolRank(i > 2)*(i-2))})
		if i > 1 {
			rows = append(rows, saidLine{fmt.Sprintf("star u %d", i), "ok"})
		}
	}
	checkDialogue(t, append(rows, saidLine{"count u", "count 9 4 3"}, saidLine{"purge 1970-01-02", "ok"}, saidLine{"count u", "count 7 4 3"}, saidLine{"all u", "ok"}, saidLine{"count u", "count 7 0 3"}), "marks")
}

func TestLogsOfScripts(t *testing.T) {
	url := strings.Repeat("u", 20)
	rows := []saidLine{{"log", "log 0 0"}}
	bytes := 0
	for i, line := range []string{"add " + url, "add v", "drop v", "all " + url, "purge 1970-01-01"} {
		bytes += 94
		rows = append(rows, saidLine{line, "ok"}, saidLine{"log", fmt.Sprintf("log %d %d", bytes, i+1)})
	}
	// With 63 bytes an operation fills its block but for the mark; with 64 it needs another one.
	for _, title := range []int{63, 64} {
		line := fmt.Sprintf(`fetch <feed url="%s"><title></title></feed>`, url)
		line = strings.Replace(line, "<title>", "<title>"+strings.Repeat("t", title-len(line)), 1)
		bytes += 94 + 64*(title-63)
		rows = append(rows, saidLine{line, "ok"}, saidLine{"log", fmt.Sprintf("log %d %d", bytes, title-57)})
	}
	refused := fmt.Sprintf("log %d 7", bytes)
	for _, row := range []saidLine{{"add " + url, "no"}, {"add", "what"}, {"", ""}, {"unread", "unread"}} {
		rows = append(rows, row, saidLine{"log", refused})
	}
	checkDialogue(t, rows, "a log")
}

func TestOperationsAreDoneOrRefusedOrNone(t *testing.T) {
	empty := `<title></title></feed>`
	checkEachSaid(t, []saidLine{
		{"add w", "ok"}, {"add u", "no"}, {"add u w", "what"}, {"add " + strings.Repeat("w", 20), "ok"}, {"add " + strings.Repeat("w", 21), "what"}, {"add \x7f", "what"},
		{"drop u", "ok"}, {"drop w", "no"}, {"drop u v", "what"}, {"drop " + strings.Repeat("w", 21), "what"},
		{`fetch <feed url="u">` + empty, "ok"}, {`fetch <feed url="w">` + empty, "no"}, {`fetch <feed url="u w">` + empty, "what"}, {"fetch u", "what"}, {`fetch <feed url="u">` + empty + " ", "what"}, {`fetch  <feed url="u">` + empty, "what"},
		{"read u 1", "ok"}, {"read u 3", "no"}, {"read w 1", "no"}, {"read u", "what"}, {"read u 1 2", "what"}, {"read u 123456789", "what"}, {"read u 12345678", "no"}, {"read u/1", "what"},
		{"unread u 1", "ok"}, {"unread u 3", "no"}, {"unread w 1", "no"}, {"unread u", "what"}, {"unread u 1 2", "what"}, {"unread u 123456789", "what"}, {"unread u/1", "what"},
		{"star u 1", "ok"}, {"star u 3", "no"}, {"star w 1", "no"}, {"star u", "what"}, {"star u 1 2", "what"}, {"star u 123456789", "what"},
		{"unstar u 1", "ok"}, {"unstar u 3", "no"}, {"unstar w 1", "no"}, {"unstar u", "what"}, {"unstar u 1 2", "what"}, {"unstar u 123456789", "what"},
		{"all u", "ok"}, {"all w", "no"}, {"all u v", "what"}, {"all " + strings.Repeat("w", 21), "what"},
		{"purge 2026-11-15", "ok"}, {"purge 1970-01-01", "ok"}, {"purge 2517-08-01", "ok"}, {"purge 2517-08-02", "what"}, {"purge 1969-12-31", "what"}, {"purge 2026-02-29", "what"}, {"purge 2026-11-15 ", "what"}, {"purge u", "what"},
	}, "operations")
}

// What is refused or none leaves the vault as it was; what is done once can not always be done again.
func TestOperationsOneBehindTheOther(t *testing.T) {
	var rows []saidLine
	for i := range 6 {
		rows = append(rows, saidLine{fmt.Sprintf("add u%d", i), "ok"})
	}
	rows = append(rows, saidLine{"add u6", "no"}, saidLine{"add u0", "no"}, saidLine{"log", "log 564 6"}, saidLine{"drop u3", "ok"}, saidLine{"drop u3", "no"}, saidLine{"add u6", "ok"}, saidLine{"add u3", "no"}, saidLine{"log", "log 752 8"})
	rows = append(rows, saidLine{"star u0 1", "no"}, saidLine{"star u0 1 ", "what"}, saidLine{`fetch <feed url="u0"><title></title><item id="1" date="1970-01-02"></item></feed>`, "ok"}, saidLine{"star u0 1", "ok"}, saidLine{"star u0 1", "ok"}, saidLine{"all u0", "ok"}, saidLine{"purge 1970-01-03", "ok"}, saidLine{"new 1", "new u0/1"}, saidLine{"unstar u0 1", "ok"}, saidLine{"purge 1970-01-02", "ok"}, saidLine{"new 1", "new u0/1"}, saidLine{"purge 1970-01-03", "ok"}, saidLine{"new 1", "new"}, saidLine{"read u0 1", "no"})
	checkDialogue(t, rows, "operations")
}

// fullLines leave as many feeds and entries as there may be.
func fullLines() []string {
	var lines []string
	for i := range 6 {
		items := ""
		for k := range 12 {
			items += fmt.Sprintf(`<item id="%c" date="1970-01-0%d"></item>`, 'a'+k, 1+(i+k)%5)
		}
		lines = append(lines, fmt.Sprintf("add u%d", i), fmt.Sprintf(`fetch <feed url="u%d"><title></title>%s</feed>`, i, items))
	}
	return lines
}

func TestScriptsWithAsManyEntriesAsThereMayBe(t *testing.T) {
	lines := append(fullLines(), "unread", "new 71", "new 72", "new 73", "read u3 c", "unread", "new 72", "count u3", "log")
	checkScript(t, scriptOf(lines...), "72 entries")
	said := strings.Split(runScript(t, scriptOf(lines...)), "\n")
	for place, want := range map[int]int{12: 72, 13: 71, 14: 72, 15: 72, 17: 71, 18: 72} {
		if got := strings.Count(said[place], "/"); got != want {
			t.Errorf("%q tells %d entries, want %d", lines[place], got, want)
		}
	}
}

func TestHowManyLinesAScriptHas(t *testing.T) {
	for _, line := range []string{"unread", "log", "what", "add u", "find x", "", " ", "   ", "\t"} {
		for n := range 36 {
			text := strings.Repeat(line+"\n", n)
			checkScript(t, text, fmt.Sprintf("%d lines", n))
			if said := runScript(t, text); (said == "too long\n") != (n > 30) {
				t.Errorf("%d lines of %q say %q", n, line, said)
			}
		}
	}
	for _, n := range []int{30, 31, 32, 100} {
		want := "log 0 0\nlog 0 0\n"
		if n > 30 {
			want = "too long\n"
		}
		for first := range n - 1 {
			lines := slices.Repeat([]string{""}, n)
			lines[first], lines[n-1] = "log", "log"
			checkSaid(t, scriptOf(lines...), want, fmt.Sprintf("%d lines, most of them empty", n))
			for i := range lines {
				if lines[i] == "" {
					lines[i] = strings.Repeat(" ", i%4)
				}
			}
			checkSaid(t, scriptOf(lines...), want, fmt.Sprintf("%d lines, most of them of blanks", n))
		}
	}
}

// filled has so many bytes: a last line is filled up with c.
func filled(head string, c string, bytes int) string {
	return head + strings.Repeat(c, bytes-len(head)-1) + "\n"
}

func TestHowManyBytesAScriptHas(t *testing.T) {
	heads := []struct{ text, said string }{
		{"", ""}, {"unread\n", "unread\n"}, {"add u\nlog\n", "ok\nlog 94 1\n"}, {scriptOf(newsLines()...), "ok\nok\nok\nok\n"}, {strings.Repeat("log\n", 29), strings.Repeat("log 0 0\n", 29)}, {strings.Repeat("\n", 29), ""},
	}
	tails := []struct{ line, fill, said string }{
		{"", " ", ""}, {"", "x", "what\n"}, {"", "\x00", "what\n"}, {"find ", "x", "find\n"}, {"find ", " ", "find\n"}, {"unread", " ", "what\n"}, {"log ", " ", "what\n"}, {"new ", "1", "what\n"}, {"count ", "u", "what\n"}, {"add ", "u", "what\n"},
	}
	for _, head := range heads {
		for _, tail := range tails {
			for _, bytes := range []int{3998, 3999, 4000} {
				checkSaid(t, filled(head.text+tail.line, tail.fill, bytes), head.said+tail.said, fmt.Sprintf("%d bytes", bytes))
			}
			for _, bytes := range []int{4001, 4002, 8000, 1 << 16} {
				checkSaid(t, filled(head.text+tail.line, tail.fill, bytes), "too long\n", fmt.Sprintf("%d bytes", bytes))
			}
		}
	}
}

// The longest operation there is has 3039 bytes, and a script has room for it and for little more.
func TestScriptsWithTheLongestOperation(t *testing.T) {
	longest := longestFeed()
	fetch := knownOpText(fetchOf(longest))
	text := scriptOf("add "+longest.Url, fetch, "count "+longest.Url, "log")
	checkSaid(t, text, "ok\nok\ncount 12 12 0\nlog 3196 2\n", "the longest operation")
	for _, bytes := range []int{3999, 4000} {
		checkSaid(t, filled(text, "~", bytes), "ok\nok\ncount 12 12 0\nlog 3196 2\nwhat\n", fmt.Sprintf("%d bytes", bytes))
	}
	checkSaid(t, filled(text, "~", 4001), "too long\n", "4001 bytes")
	checkSaid(t, filled(text, " ", 4001), "too long\n", "4001 bytes, blanks behind")
}

func TestLastLinesThatAreNotEnded(t *testing.T) {
	heads := []string{"", "\n", " \n", "unread\n", "add u\nlog\n", scriptOf(newsLines()...), strings.Repeat("\n", 29), strings.Repeat("\n", 30), strings.Repeat("log\n", 30)}
	for _, head := range heads {
		for _, last := range []string{" ", "  ", "\t", "\r", "\x00", "u", "unread", "unread ", "new 1", "find x", "count u", "log", "add u", "fly", strings.Repeat(" ", 30)} {
			checkSaid(t, head+last, "too long\n", "not ended")
		}
	}
	text := scriptOf(append(newsLines(), askingLines()...)...)
	for i := range len(text) {
		checkScript(t, text[:i], "cut off")
		checkScript(t, text[i:], "its end alone")
	}
}

func TestTextsThatAreNoScripts(t *testing.T) {
	r := fixedRandom()
	for _, n := range []int{0, 1, 2, 3, 30, 31, 1000, 3999, 4000, 4001, 4002, 1 << 20} {
		for _, fill := range []string{"\n", " ", "u", "\x00", "\xff", "u\n", " \n", "unread\n", "\r\n", "\n\n\n "} {
			checkScript(t, strings.Repeat(fill, n/len(fill)+1)[:n], fmt.Sprintf("%d bytes", n))
		}
		checkScript(t, randomText(r, n), fmt.Sprintf("%d bytes of noise", n))
		checkScript(t, randomText(r, n)+"\n", fmt.Sprintf("%d bytes of noise, ended", n))
	}
}

// Each line is changed at each of its bytes; each text that comes of it is a line, or more than one.
func TestLinesThatAreChanged(t *testing.T) {
	var lines []string
	for _, line := range append(askingLines(), tellingLines()...) {
		for _, s := range otherTexts(line) {
			lines = append(lines, strings.Split(s, "\n")...)
		}
	}
	checkLines(t, newsLines(), lines, "changed lines")
}

func TestLinesWithEachByte(t *testing.T) {
	var lines []string
	for _, line := range append(askingLines(), "read u 1", "add w", "purge 2026-11-16") {
		for i := range len(line) + 1 {
			for c := range 256 {
				if c != '\n' {
					lines = append(lines, line[:i]+string([]byte{byte(c)})+line[i:])
				}
			}
		}
	}
	checkLines(t, newsLines()[:2], lines, "a byte more")
}

// randomLine is most often right; of what it names most is there.
func randomLine(r *rand.Rand) string {
	switch r.Intn(12) {
	case 0:
		return "unread"
	case 1:
		return fmt.Sprintf("new %d", r.Intn(20))
	case 2:
		return "find " + []string{"a", "b", "ab", "abc", "A", "news", "none", "a b"}[r.Intn(8)]
	case 3:
		return fmt.Sprintf("count u%d", r.Intn(8))
	case 4:
		return "log"
	case 5:
		return []string{"", " ", "   ", "fly", "add", "read u0", "new", "find ", "unread ", "log ", " log", "count", "new 01", "\t"}[r.Intn(14)]
	}
	return knownOpText(randomOp(r))
}

// randomLines have room in one script.
func randomLines(r *rand.Rand) []string {
	var lines []string
	for range r.Intn(31) {
		line := randomLine(r)
		if len(scriptOf(lines...))+len(line) < 4000 {
			lines = append(lines, line)
		}
	}
	return lines
}

func TestManyScripts(t *testing.T) {
	r := fixedRandom()
	for range 400 {
		checkScript(t, scriptOf(randomLines(r)...), "some lines")
	}
}

// checkStaysSaid cuts a script behind each of its lines: each part says the beginning of what the whole one says.
func checkStaysSaid(t *testing.T, lines []string) {
	t.Helper()
	whole := runScript(t, scriptOf(lines...))
	want := knownSaid(lines)
	for n := range len(lines) + 1 {
		part := runScript(t, scriptOf(lines[:n]...))
		if part != strings.Join(want[:n], "") || !strings.HasPrefix(whole, part) {
			t.Errorf("the first %d lines of %q say %q, and all of them %q", n, lines, part, whole)
		}
	}
}

func TestWhatWasSaidStaysSaid(t *testing.T) {
	all := slices.Concat(askingLines(), newsLines(), askingLines(), tellingLines(), []string{"", "  ", "fly", "add u", "unread"})
	checkStaysSaid(t, all)
	checkStaysSaid(t, fullLines())
	checkStaysSaid(t, append(fullLines(), askingLines()...))
	r := fixedRandom()
	for range 60 {
		checkStaysSaid(t, randomLines(r))
	}
}

// One more line, whichever, changes nothing of what was said: up to the 30th, or the 4000th byte.
func TestOneMoreLineChangesNothingAhead(t *testing.T) {
	more := slices.Concat(askingLines(), tellingLines(), []string{"", " ", "fly", "add u", "drop u", "drop v", "purge 2517-08-01", "new 01", strings.Repeat("x", 2000)})
	for _, lines := range [][]string{nil, newsLines(), fullLines(), slices.Concat(newsLines(), askingLines(), tellingLines()), slices.Repeat([]string{"unread"}, 29), slices.Repeat([]string{""}, 28), slices.Repeat([]string{"add u"}, 30)} {
		script := scriptOf(lines...)
		said := runScript(t, script)
		for _, line := range more {
			longer := script + line + "\n"
			got := runScript(t, longer)
			if len(lines) == 30 || len(longer) > 4000 {
				if got != "too long\n" {
					t.Errorf("%d lines and %d bytes say %q", len(lines)+1, len(longer), got)
				}
				continue
			}
			if !strings.HasPrefix(got, said) || strings.Count(got, "\n") > strings.Count(said, "\n")+1 {
				t.Errorf("with %q behind it %q says %q, and without it %q", line, script, got, said)
			}
		}
	}
}

// checkAsksChangeNothing puts lines that ask in between: without what they say, the same is said.
func checkAsksChangeNothing(t *testing.T, lines []string, asks []string, place int) {
	t.Helper()
	with := slices.Insert(slices.Clone(lines), place, asks...)
	want := knownSaid(lines)
	said := strings.SplitAfter(runScript(t, scriptOf(with...)), "\n")
	ahead := strings.Count(strings.Join(want[:place], ""), "\n")
	told := strings.Count(strings.Join(knownSaid(with)[place:place+len(asks)], ""), "\n")
	if len(said) < ahead+told {
		t.Fatalf("%q says too little: %q", with, said)
	}
	left := strings.Join(slices.Concat(said[:ahead], said[ahead+told:]), "")
	if left != runScript(t, scriptOf(lines...)) || left != strings.Join(want, "") {
		t.Errorf("%q at %d of %q change what is said to %q, want %q", asks, place, lines, left, want)
	}
}

func TestLinesThatAskChangeNothing(t *testing.T) {
	lines := slices.Concat(newsLines(), tellingLines(), askingLines())
	asks := append(askingLines(), "new 0", "new 999999999", "find none", "find a b", "find ", "count none", "count", "fly", " ", "", "unread u", "add", "read u")
	for place := range len(lines) + 1 {
		checkAsksChangeNothing(t, lines, askingLines(), place)
		for _, ask := range asks {
			checkAsksChangeNothing(t, lines, []string{ask}, place)
			checkAsksChangeNothing(t, lines, slices.Repeat([]string{ask}, 5), place)
		}
	}
	r := fixedRandom()
	for range 60 {
		lines := randomLines(r)
		lines = append(lines[:min(len(lines), 20)], askingLines()...)
		if len(scriptOf(lines...)) < 3900 {
			checkAsksChangeNothing(t, lines, askingLines(), r.Intn(len(lines)+1))
		}
	}
}

// The operations of a script go into a vault, and what it says of them is what the vault's functions answer.
func TestScriptsAgainstTheirVault(t *testing.T) {
	r := fixedRandom()
	for range 100 {
		var l []impl.Op
		var lines []string
		for range r.Intn(20) {
			o := randomOp(r)
			if line := knownOpText(o); len(scriptOf(lines...))+len(line) < 3900 {
				l, lines = append(l, o), append(lines, line)
			}
		}
		v, codes := impl.VaultPlay(scriptKey, impl.Vault{}, l)
		want := ""
		for _, code := range codes {
			want += []string{"ok\n", "no\n"}[boolRank(code != impl.VcOk)]
		}
		left, code := impl.VaultOpen(scriptKey, v)
		all, unread, starred := impl.Counts(left, "u3")
		want += knownRefs("unread", impl.Unread(left)) + "\n" + knownRefs("new", impl.Newest(left, 7)) + "\n" + knownRefs("find", impl.Found(left, "ab")) + "\n"
		want += fmt.Sprintf("count %d %d %d\nlog %d %d\n", all, unread, starred, len(v.Log), v.Count)
		checkCode(t, code, impl.VcOk, "the vault of a script")
		checkSaid(t, scriptOf(append(lines, "unread", "new 7", "find ab", "count u3", "log")...), want, "against a vault")
	}
}

// Nothing is kept: a script says the same, whatever other one was run ahead of it.
func TestScriptsOneBehindTheOther(t *testing.T) {
	r := fixedRandom()
	texts := []string{"", "log\n", "add u\nlog\n", "drop u\nlog\n", "unread", strings.Repeat("\n", 31), scriptOf(newsLines()...), scriptOf(append(fullLines(), askingLines()...)...)}
	for range 10 {
		texts = append(texts, scriptOf(randomLines(r)...))
	}
	for _, first := range texts {
		for _, second := range texts {
			impl.RunScript(first)
			if got, want := impl.RunScript(second), knownScript(second); got != want {
				t.Errorf("behind %q: %q says %q, want %q", first, second, got, want)
			}
		}
	}
}

func TestScriptsAtTheSameTime(t *testing.T) {
	texts := []string{scriptOf(slices.Concat(newsLines(), askingLines(), tellingLines(), askingLines())...), scriptOf(append(fullLines(), askingLines()...)...), "drop u\nlog\n", "unread"}
	var want []string
	for _, text := range texts {
		want = append(want, knownScript(text))
	}
	var group sync.WaitGroup
	for n := range 8 {
		group.Go(func() {
			for i := range 20 {
				which := (n + i) % len(texts)
				if got := impl.RunScript(texts[which]); got != want[which] {
					t.Errorf("%q says %q, want %q", texts[which], got, want[which])
				}
			}
		})
	}
	group.Wait()
}
