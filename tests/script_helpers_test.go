package tests

import (
	"fmt"
	"regexp"
	"strconv"
	"strings"
	"testing"
	"time"

	"loop.example/g00569/impl"
)

const scriptKey = "a script has a key of 32 bytes ."

var (
	newLine   = regexp.MustCompile(`\Anew (0|[1-9][0-9]{0,8})\z`)
	findLine  = regexp.MustCompile(`(?s)\Afind (.+)\z`)
	countLine = regexp.MustCompile(`\Acount ([!-~]{1,20})\z`)
	blankLine = regexp.MustCompile(`\A *\z`)
)

// runScript runs a script twice, and holds it against what it was behind that.
func runScript(t *testing.T, text string) string {
	t.Helper()
	was := strings.Clone(text)
	said := impl.RunScript(text)
	if again := impl.RunScript(text); again != said {
		t.Errorf("%q says %q, and then %q", was, said, again)
	}
	if text != was {
		t.Errorf("RunScript wrote into %q", was)
	}
	return said
}

// A knownRun has what the lines up to now have left; of the log it just knows how long it is.
type knownRun struct {
	reader impl.Reader
	boxes  int
	bytes  int
}

func knownRefs(word string, l []impl.Ref) string {
	for _, ref := range l {
		word += fmt.Sprintf(" %s/%s", ref.Url, ref.Id)
	}
	return word
}

// knownReadOp asks isOpText, so that it has just to take apart what is one.
func knownReadOp(s string) (impl.Op, bool) {
	if !isOpText(s) {
		return impl.Op{}, false
	}
	word, rest, _ := strings.Cut(s, " ")
	var o impl.Op
	for kind, known := range knownWords {
		if known == word {
			o.Kind = kind
		}
	}
	switch o.Kind {
	case impl.OpFetch:
		o.Feed, _ = impl.ReadFeed(rest)
	case impl.OpPurge:
		at, _ := time.Parse("2006-01-02", rest)
		o.Day = at.Unix() / (24 * 60 * 60)
	default:
		o.Url, o.Id, _ = strings.Cut(rest, " ")
	}
	return o, true
}

func (k *knownRun) told(line string) string {
	o, ok := knownReadOp(line)
	if !ok {
		return "what"
	}
	next, ok := knownDone(k.reader, o)
	if !ok {
		return "no"
	}
	k.reader = next
	k.boxes++
	k.bytes += 2 + 12 + len(knownPadded(line, 64)) + 16
	return "ok"
}

func (k *knownRun) counted(url string) string {
	var n [3]int
	for _, e := range knownOf(k.reader)[url].entries {
		n[0]++
		n[1] += boolRank(!e.Read)
		n[2] += boolRank(e.Star)
	}
	return fmt.Sprintf("count %d %d %d", n[0], n[1], n[2])
}

func (k *knownRun) said(line string) string {
	if line == "unread" {
		return knownRefs("unread", knownOrder(k.reader, notRead))
	}
	if line == "log" {
		return fmt.Sprintf("log %d %d", k.bytes, k.boxes)
	}
	if m := newLine.FindStringSubmatch(line); m != nil {
		n, _ := strconv.Atoi(m[1])
		order := knownOrder(k.reader, anyEntry)
		return knownRefs("new", order[:min(n, len(order))])
	}
	if m := findLine.FindStringSubmatch(line); m != nil {
		has := knownWord(m[1])
		return knownRefs("find", knownOrder(k.reader, func(e impl.Entry) bool { return !strings.Contains(m[1], " ") && has(e) }))
	}
	if m := countLine.FindStringSubmatch(line); m != nil {
		return k.counted(m[1])
	}
	return k.told(line)
}

// knownSaid answers what each line says, with "" for those that say nothing.
func knownSaid(lines []string) []string {
	var k knownRun
	var out []string
	for _, line := range lines {
		said := ""
		if !blankLine.MatchString(line) {
			said = k.said(line) + "\n"
		}
		out = append(out, said)
	}
	return out
}

func knownScript(text string) string {
	lines := strings.Split(text, "\n")
	last := len(lines) - 1
	if len(text) > 4000 || last > 30 || lines[last] != "" {
		return "too long\n"
	}
	return strings.Join(knownSaid(lines[:last]), "")
}

func scriptOf(lines ...string) string {
	out := ""
	for _, line := range lines {
		out += line + "\n"
	}
	return out
}

func checkSaid(t *testing.T, text string, want string, why string) {
	t.Helper()
	if got := runScript(t, text); got != want {
		t.Errorf("%s: %q says %q, want %q", why, text, got, want)
	}
}

// checkScript takes any text.
func checkScript(t *testing.T, text string, why string) {
	t.Helper()
	checkSaid(t, text, knownScript(text), why)
}

// checkLines takes any number of lines, as many of them in one script as there is room for; each script has the same lines ahead.
func checkLines(t *testing.T, ahead []string, lines []string, why string) {
	t.Helper()
	script, count := scriptOf(ahead...), len(ahead)
	for _, line := range lines {
		if count == 30 || len(script)+len(line) >= 4000 {
			checkScript(t, script, why)
			script, count = scriptOf(ahead...), len(ahead)
		}
		script, count = script+line+"\n", count+1
	}
	checkScript(t, script, why)
}

// newsLines leave two feeds with three entries.
func newsLines() []string {
	return []string{
		"add u",
		`fetch <feed url="u"><title>U</title><item id="1" date="2026-11-14">one news</item><item id="2" date="2026-11-15">two</item></feed>`,
		"add v",
		`fetch <feed url="v"><title>V</title><item id="1" date="2026-11-15">news of v</item></feed>`,
	}
}

// askingLines has one line of each form that asks.
func askingLines() []string {
	return []string{"unread", "new 2", "find news", "count u", "log"}
}

// tellingLines has one line of each operation that can be done behind newsLines, one behind the other.
func tellingLines() []string {
	return []string{
		"add w", "fetch <feed url=\"w\"><title></title></feed>", "read u 1", "unread u 1", "star u 2", "unstar u 2", "all v", "purge 2026-11-16", "drop w",
	}
}
