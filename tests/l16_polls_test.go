package tests

import (
	"fmt"
	"math"
	"math/rand"
	"slices"
	"strings"
	"sync"
	"testing"

	"loop.example/g00569/impl"
)

const (
	lastPollTime = int64(1000000000)
	lastPollNow  = int64(900000000)
)

// roomPoll is due whenever it is asked, so that it is seen where the room behind a list is read.
var roomPoll = impl.Poll{Url: "room", Wait: 10}

// noTimes lie beyond both ends of the times.
var noTimes = []int64{-1, lastPollTime + 1, 1 << 32, math.MinInt64, math.MaxInt64}

// isKnownNameOf asks for a name of so many bytes.
func isKnownNameOf(s string, most int) bool {
	return len(s) >= 1 && len(s) <= most && strings.IndexFunc(s, func(c rune) bool { return c < 33 || c > 126 }) < 0
}

func isKnownMark(s string) bool {
	return s == "" || isKnownNameOf(s, 12)
}

func knownPollOk(p impl.Poll) bool {
	within := p.Next >= 0 && p.Next <= lastPollTime && p.Wait >= 10 && p.Wait <= 1000 && p.Fails >= 0 && p.Fails <= 20
	return within && isKnownNameOf(p.Url, 20) && isKnownMark(p.Mark)
}

func knownAnswerOk(a impl.Answer) bool {
	within := a.Code >= 100 && a.Code <= 599 && a.After >= 0 && a.After <= 100000
	return within && isKnownMark(a.Mark) && (a.Url == "" || isKnownNameOf(a.Url, 20))
}

// knownKind tells what an answer is: a new text, the same one, a new place, the end, or a fault.
func knownKind(a impl.Answer) string {
	if (a.Code == 301 || a.Code == 308) && a.Url != "" {
		return "place"
	}
	switch a.Code {
	case 200:
		return "new"
	case 304:
		return "same"
	case 410:
		return "end"
	}
	return "fault"
}

// knownAfter makes each field by itself.
func knownAfter(p impl.Poll, now int64, a impl.Answer) (impl.Poll, bool) {
	if !knownPollOk(p) || !knownAnswerOk(a) || p.Gone || now < p.Next || now > lastPollNow {
		return impl.Poll{}, false
	}
	kind := knownKind(a)
	waits := map[string]int64{"new": p.Wait / 2, "same": p.Wait + 10, "place": p.Wait, "end": p.Wait, "fault": 2 * p.Wait}
	next := impl.Poll{Url: p.Url, Mark: p.Mark, Wait: min(max(waits[kind], 10), 1000), Gone: kind == "end"}
	if kind == "place" {
		next.Url, next.Mark = a.Url, ""
	}
	if kind == "new" {
		next.Mark = a.Mark
	}
	if kind == "fault" {
		next.Fails = min(p.Fails+1, 20)
	}
	pause := next.Wait
	if (a.Code == 429 || a.Code == 503) && a.After > pause {
		pause = a.After
	}
	next.Next = now + pause
	return next, true
}

func checkAfter(t *testing.T, p impl.Poll, now int64, a impl.Answer) impl.Poll {
	t.Helper()
	want, can := knownAfter(p, now, a)
	got, ok := impl.PollAfter(p, now, a)
	if ok != can || got != want {
		t.Errorf("%+v behind %+v at %d: %+v, %t, want %+v, %t", p, a, now, got, ok, want, can)
	}
	return got
}

func checkNotAfter(t *testing.T, p impl.Poll, now int64, a impl.Answer, why string) {
	t.Helper()
	if got, ok := impl.PollAfter(p, now, a); ok || got != (impl.Poll{}) {
		t.Errorf("%s: %+v, %t", why, got, ok)
	}
}

func checkPoll(t *testing.T, p impl.Poll, want bool, why string) {
	t.Helper()
	if got := impl.PollOk(p); got != want {
		t.Errorf("%s: PollOk(%+v) = %t", why, p, got)
	}
}

// namesAbout are names of about so many bytes, and what is none for its bytes.
func namesAbout(most int) []string {
	out := []string{"", "u", "~", "!", "&<>", " ", "u ", " u", "u v", "\x1f", "\x7f", "\x80", "\xff", "u\n", "\x00"}
	for _, n := range []int{most - 1, most, most + 1, most + 2, 1000} {
		out = append(out, strings.Repeat("n", n))
	}
	return out
}

// wrongPolls are each wrong in one way, with that way as their key.
func wrongPolls() map[string]impl.Poll {
	out := map[string]impl.Poll{"the zero value": {}}
	add := func(why string, spoil func(*impl.Poll)) {
		p := impl.Poll{Url: "u", Mark: "m", Next: 5, Wait: 20, Fails: 1}
		spoil(&p)
		out[why] = p
	}
	for _, name := range namesAbout(20) {
		if !isKnownNameOf(name, 20) {
			add(fmt.Sprintf("the Url %q", name), func(p *impl.Poll) { p.Url = name })
		}
	}
	for _, mark := range namesAbout(12) {
		if !isKnownMark(mark) {
			add(fmt.Sprintf("the Mark %q", mark), func(p *impl.Poll) { p.Mark = mark })
		}
	}
	for _, next := range noTimes {
		add(fmt.Sprintf("Next %d", next), func(p *impl.Poll) { p.Next = next })
	}
	for _, wait := range []int64{0, 9, 1001, -10, 1 << 32, math.MinInt64, math.MaxInt64} {
		add(fmt.Sprintf("Wait %d", wait), func(p *impl.Poll) { p.Wait = wait })
	}
	for _, fails := range []int64{-1, 21, 22, 1 << 32, math.MinInt64, math.MaxInt64} {
		add(fmt.Sprintf("Fails %d", fails), func(p *impl.Poll) { p.Fails = fails })
	}
	return out
}

// wrongAnswers are each wrong in one way, with that way as their key.
func wrongAnswers() map[string]impl.Answer {
	out := map[string]impl.Answer{"the zero value": {}}
	for _, code := range []int64{99, 600, 98, 601, 0, -200, 200 + 1<<32, math.MinInt64, math.MaxInt64} {
		out[fmt.Sprintf("Code %d", code)] = impl.Answer{Code: code}
	}
	for _, code := range []int64{100, 200, 301, 304, 308, 410, 429, 503, 599} {
		for _, mark := range namesAbout(12) {
			if !isKnownMark(mark) {
				out[fmt.Sprintf("Code %d, the Mark %q", code, mark)] = impl.Answer{Code: code, Mark: mark, Url: "v"}
			}
		}
		for _, url := range namesAbout(20) {
			if url != "" && !isKnownNameOf(url, 20) {
				out[fmt.Sprintf("Code %d, the Url %q", code, url)] = impl.Answer{Code: code, Mark: "m", Url: url}
			}
		}
		for _, after := range []int64{-1, 100001, 1 << 32, math.MinInt64, math.MaxInt64} {
			out[fmt.Sprintf("Code %d, After %d", code, after)] = impl.Answer{Code: code, Url: "v", After: after}
		}
	}
	return out
}

func TestNewPolls(t *testing.T) {
	for _, url := range namesAbout(20) {
		for _, now := range append([]int64{0, 1, 5, lastPollNow, lastPollNow + 1, lastPollTime - 1, lastPollTime}, noTimes...) {
			want, right := impl.Poll{}, isKnownNameOf(url, 20) && now >= 0 && now <= lastPollTime
			if right {
				want = impl.Poll{Url: url, Next: now, Wait: 10}
			}
			got, ok := impl.PollNew(url, now)
			if ok != right || got != want {
				t.Errorf("PollNew(%q, %d) = %+v, %t, want %t", url, now, got, ok, right)
			}
			checkPoll(t, got, right, "a new poll")
		}
	}
}

func TestNewPollsWithEachByteOfAUrl(t *testing.T) {
	for c := range 256 {
		for _, url := range []string{string([]byte{byte(c)}), "a" + string([]byte{byte(c)}), string([]byte{byte(c)}) + "a"} {
			if _, ok := impl.PollNew(url, 1); ok != (c >= 33 && c <= 126) {
				t.Errorf("PollNew(%q, 1): %t", url, ok)
			}
		}
	}
}

func TestPollsThatAreRight(t *testing.T) {
	for _, next := range []int64{0, 1, lastPollNow, lastPollTime - 1, lastPollTime} {
		for _, wait := range []int64{10, 11, 999, 1000} {
			for _, fails := range []int64{0, 1, 19, 20} {
				for _, mark := range []string{"", "m", "~", strings.Repeat("m", 11), strings.Repeat("m", 12)} {
					for _, gone := range []bool{false, true} {
						checkPoll(t, impl.Poll{Url: "u", Mark: mark, Next: next, Wait: wait, Fails: fails, Gone: gone}, true, "at its limits")
					}
				}
			}
		}
	}
	for _, n := range []int{1, 19, 20} {
		checkPoll(t, impl.Poll{Url: strings.Repeat("u", n), Wait: 10}, true, "a Url at its limit")
	}
	if impl.MinWait != 10 || impl.MaxWait != 1000 {
		t.Error("the waits are others")
	}
}

func TestPollsThatAreNotRight(t *testing.T) {
	for why, p := range wrongPolls() {
		checkPoll(t, p, false, why)
		for _, now := range []int64{0, 5, 1000, lastPollNow} {
			for _, code := range []int64{200, 304, 301, 410, 429, 500} {
				checkNotAfter(t, p, now, impl.Answer{Code: code, Url: "v"}, why)
			}
		}
		p.Gone = true
		checkPoll(t, p, false, why+", and Gone")
		checkNotAfter(t, p, 1000, impl.Answer{Code: 200}, why+", and Gone")
	}
}

func TestAnswersAsTheDocumentSays(t *testing.T) {
	p := impl.Poll{Url: "u", Mark: "m", Next: 100, Wait: 40, Fails: 3}
	rows := []struct {
		a    impl.Answer
		want impl.Poll
	}{
		{impl.Answer{Code: 200, Mark: "n", Url: "v", After: 90}, impl.Poll{Url: "u", Mark: "n", Next: 120, Wait: 20}},
		{impl.Answer{Code: 200}, impl.Poll{Url: "u", Next: 120, Wait: 20}},
		{impl.Answer{Code: 304, Mark: "n", Url: "v", After: 90}, impl.Poll{Url: "u", Mark: "m", Next: 150, Wait: 50}},
		{impl.Answer{Code: 301, Mark: "n", Url: "v", After: 90}, impl.Poll{Url: "v", Next: 140, Wait: 40}},
		{impl.Answer{Code: 308, Mark: "n", Url: "v", After: 90}, impl.Poll{Url: "v", Next: 140, Wait: 40}},
		{impl.Answer{Code: 301, Mark: "n", After: 90}, impl.Poll{Url: "u", Mark: "m", Next: 180, Wait: 80, Fails: 4}},
		{impl.Answer{Code: 308, Mark: "n", After: 90}, impl.Poll{Url: "u", Mark: "m", Next: 180, Wait: 80, Fails: 4}},
		{impl.Answer{Code: 302, Mark: "n", Url: "v"}, impl.Poll{Url: "u", Mark: "m", Next: 180, Wait: 80, Fails: 4}},
		{impl.Answer{Code: 410, Mark: "n", Url: "v", After: 90}, impl.Poll{Url: "u", Mark: "m", Next: 140, Wait: 40, Gone: true}},
		{impl.Answer{Code: 429, After: 79}, impl.Poll{Url: "u", Mark: "m", Next: 180, Wait: 80, Fails: 4}},
		{impl.Answer{Code: 429, After: 80}, impl.Poll{Url: "u", Mark: "m", Next: 180, Wait: 80, Fails: 4}},
		{impl.Answer{Code: 429, After: 81}, impl.Poll{Url: "u", Mark: "m", Next: 181, Wait: 80, Fails: 4}},
		{impl.Answer{Code: 503, Mark: "n", Url: "v", After: 100000}, impl.Poll{Url: "u", Mark: "m", Next: 100100, Wait: 80, Fails: 4}},
		{impl.Answer{Code: 500, After: 100000}, impl.Poll{Url: "u", Mark: "m", Next: 180, Wait: 80, Fails: 4}},
		{impl.Answer{Code: 100}, impl.Poll{Url: "u", Mark: "m", Next: 180, Wait: 80, Fails: 4}},
		{impl.Answer{Code: 599}, impl.Poll{Url: "u", Mark: "m", Next: 180, Wait: 80, Fails: 4}},
	}
	for _, row := range rows {
		if got, ok := impl.PollAfter(p, 100, row.a); !ok || got != row.want {
			t.Errorf("behind %+v: %+v, %t, want %+v", row.a, got, ok, row.want)
		}
		checkAfter(t, p, 100, row.a)
	}
}

func TestEachCode(t *testing.T) {
	for code := int64(90); code < 610; code++ {
		for _, url := range []string{"", "v"} {
			for _, after := range []int64{0, 50, 700} {
				for _, wait := range []int64{10, 25, 1000} {
					a := impl.Answer{Code: code, Mark: "n", Url: url, After: after}
					checkAfter(t, impl.Poll{Url: "u", Mark: "m", Next: 7, Wait: wait, Fails: 2}, 9, a)
				}
			}
		}
	}
}

// The wait of a poll is asked behind each answer, from each wait that there is.
func TestEachWait(t *testing.T) {
	for wait := int64(10); wait <= 1000; wait++ {
		for _, code := range []int64{200, 304, 308, 410, 500, 503} {
			checkAfter(t, impl.Poll{Url: "u", Wait: wait}, 0, impl.Answer{Code: code, Url: "v"})
		}
	}
	rows := []struct{ code, wait, want int64 }{
		{200, 10, 10}, {200, 19, 10}, {200, 20, 10}, {200, 21, 10}, {200, 22, 11}, {200, 23, 11}, {200, 999, 499}, {200, 1000, 500},
		{304, 10, 20}, {304, 989, 999}, {304, 990, 1000}, {304, 991, 1000}, {304, 1000, 1000},
		{500, 10, 20}, {500, 499, 998}, {500, 500, 1000}, {500, 501, 1000}, {500, 1000, 1000},
		{410, 10, 10}, {410, 1000, 1000}, {301, 10, 10}, {301, 1000, 1000},
	}
	for _, row := range rows {
		got, ok := impl.PollAfter(impl.Poll{Url: "u", Wait: row.wait}, 50, impl.Answer{Code: row.code, Url: "v"})
		if !ok || got.Wait != row.want || got.Next != 50+row.want {
			t.Errorf("%d with a wait of %d: %+v, %t, want %d", row.code, row.wait, got, ok, row.want)
		}
	}
}

func TestHowManyFails(t *testing.T) {
	for fails := range int64(21) {
		for _, code := range []int64{200, 304, 301, 308, 410, 404, 429, 500, 503} {
			for _, url := range []string{"", "v"} {
				checkAfter(t, impl.Poll{Url: "u", Wait: 10, Fails: fails}, 0, impl.Answer{Code: code, Url: url})
			}
		}
	}
	p := impl.Poll{Url: "u", Wait: 10}
	for n := int64(1); n < 30; n++ {
		p = checkAfter(t, p, p.Next, impl.Answer{Code: 500})
		if p.Fails != min(n, 20) {
			t.Errorf("behind %d faults: %+v", n, p)
		}
	}
}

// An After below, at and above the wait, for each Code with which it counts, and for some with which it does not.
func TestAfters(t *testing.T) {
	for _, code := range []int64{200, 304, 301, 308, 410, 428, 429, 430, 500, 502, 503, 504, 599} {
		for _, url := range []string{"", "v"} {
			for _, wait := range []int64{10, 16, 499, 500, 501, 1000} {
				for _, after := range []int64{0, 1, wait - 1, wait, wait + 1, 2*wait - 1, 2 * wait, 2*wait + 1, 999, 1000, 1001, 99999, 100000, 100001} {
					checkAfter(t, impl.Poll{Url: "u", Wait: wait}, 3, impl.Answer{Code: code, Url: url, After: after})
				}
			}
		}
	}
}

func TestMarksAndUrlsOfAnswers(t *testing.T) {
	for _, code := range []int64{100, 200, 301, 304, 308, 404, 410} {
		for _, mark := range namesAbout(12) {
			for _, url := range namesAbout(20) {
				checkAfter(t, impl.Poll{Url: "u", Mark: "m", Wait: 10}, 0, impl.Answer{Code: code, Mark: mark, Url: url})
			}
		}
	}
	longest := impl.Answer{Code: 308, Mark: strings.Repeat("n", 12), Url: strings.Repeat("v", 20)}
	if got := checkAfter(t, impl.Poll{Url: "u", Mark: "m", Wait: 10}, 0, longest); got.Url != longest.Url || got.Mark != "" {
		t.Errorf("%+v", got)
	}
}

func TestAnswersThatAreNotRight(t *testing.T) {
	for why, a := range wrongAnswers() {
		if knownAnswerOk(a) {
			t.Fatalf("%s: %+v is right", why, a)
		}
		for _, p := range []impl.Poll{{Url: "u", Wait: 10}, {Url: "u", Mark: "m", Next: 5, Wait: 1000, Fails: 20}} {
			checkNotAfter(t, p, 9, a, why)
		}
	}
}

func TestPollsThatAreGone(t *testing.T) {
	p := checkAfter(t, impl.Poll{Url: "u", Mark: "m", Wait: 30, Fails: 2}, 9, impl.Answer{Code: 410})
	if p != (impl.Poll{Url: "u", Mark: "m", Next: 39, Wait: 30, Gone: true}) || !impl.PollOk(p) {
		t.Errorf("a poll that is gone: %+v", p)
	}
	for code := int64(100); code < 600; code++ {
		checkNotAfter(t, p, 100, impl.Answer{Code: code, Url: "v"}, "a poll that is gone")
	}
}

func TestWhenAnAnswerComes(t *testing.T) {
	for _, next := range []int64{0, 1, 100, lastPollNow - 1, lastPollNow, lastPollNow + 1, lastPollTime} {
		times := []int64{next - 1, next, next + 1, 0, -1, lastPollNow - 1, lastPollNow, lastPollNow + 1, lastPollTime, lastPollTime + 1, math.MinInt64, math.MaxInt64}
		for _, now := range times {
			for _, code := range []int64{200, 304, 308, 410, 503} {
				p := impl.Poll{Url: "u", Wait: 1000, Next: next}
				got := checkAfter(t, p, now, impl.Answer{Code: code, Url: "v", After: 100000})
				if got != (impl.Poll{}) {
					checkPoll(t, got, true, fmt.Sprintf("an answer at %d", now))
				}
			}
		}
	}
	early, late := impl.Poll{Url: "u", Wait: 10, Next: 50}, impl.Poll{Url: "u", Wait: 10, Next: lastPollNow}
	checkNotAfter(t, early, 49, impl.Answer{Code: 200}, "one ahead of Next")
	checkNotAfter(t, late, lastPollNow+1, impl.Answer{Code: 200}, "one above 900000000")
	if got, ok := impl.PollAfter(late, lastPollNow, impl.Answer{Code: 503, After: 100000}); !ok || got.Next != 900100000 {
		t.Errorf("just at 900000000: %+v, %t", got, ok)
	}
}

func randomAnswer(r *rand.Rand) impl.Answer {
	codes := []int64{200, 304, 301, 308, 404, 429, 500, 503, 410, 99}
	n := r.Intn(100)
	if n >= len(codes) {
		n %= 8
	}
	a := impl.Answer{Code: codes[n], Mark: []string{"", "n", "other"}[r.Intn(3)], Url: []string{"", "v", "w"}[r.Intn(3)]}
	if r.Intn(3) == 0 {
		a.After = r.Int63n(2000)
	}
	return a
}

// Behind an answer a poll comes no sooner than the least wait; each fault makes the wait twice as long, up to the greatest.
func TestManyAnswers(t *testing.T) {
	r := fixedRandom()
	for range 200 {
		p, _ := impl.PollNew("u", r.Int63n(1000))
		for range 60 {
			now, a := p.Next+r.Int63n(3)-r.Int63n(2), randomAnswer(r)
			next := checkAfter(t, p, now, a)
			if next == (impl.Poll{}) {
				continue
			}
			if next.Next < now+10 || next.Next < now+next.Wait || !impl.PollOk(next) {
				t.Errorf("%+v comes too soon behind %d", next, now)
			}
			if next.Fails > 0 && next.Wait != min(2*p.Wait, 1000) {
				t.Errorf("a fault: a wait of %d behind one of %d", next.Wait, p.Wait)
			}
			p = next
			if p.Gone {
				break
			}
		}
	}
}

func TestFaultsDoubleTheWait(t *testing.T) {
	for _, code := range []int64{100, 201, 299, 300, 301, 302, 303, 305, 307, 308, 309, 400, 404, 409, 411, 429, 499, 500, 503, 599} {
		p, _ := impl.PollNew("u", 0)
		for _, want := range []int64{20, 40, 80, 160, 320, 640, 1000, 1000, 1000} {
			now := p.Next
			p = checkAfter(t, p, now, impl.Answer{Code: code})
			if p.Wait != want || p.Next != now+want {
				t.Errorf("Code %d: %+v, want a wait of %d", code, p, want)
			}
		}
	}
}

func knownDue(l []impl.Poll, now int64) []string {
	var out []string
	for _, p := range l {
		if len(l) <= 50 && knownPollOk(p) && !p.Gone && p.Next <= now {
			out = append(out, p.Url)
		}
	}
	return out
}

func checkDue(t *testing.T, l []impl.Poll, now int64, want []string, why string) {
	t.Helper()
	l, unchanged := guardedList(l, roomPoll, equal)
	got := impl.Due(l, now)
	if !slices.Equal(got, want) {
		t.Errorf("%s: at %d %q, want %q", why, now, got, want)
	}
	for i := range got[:cap(got)] {
		got[:cap(got)][i] = "spoilt"
	}
	if !unchanged() {
		t.Errorf("%s: Due wrote into its argument", why)
	}
}

func TestDueAsTheDocumentSays(t *testing.T) {
	l := []impl.Poll{
		{Url: "z", Next: 7, Wait: 10}, {Url: "gone", Next: 7, Wait: 10, Gone: true}, {Url: "a", Next: 8, Wait: 10},
		{Url: "wrong", Next: 7, Wait: 9}, {Url: "m", Next: 0, Wait: 1000, Fails: 20, Mark: "m"}, {}, {Url: "z", Next: 6, Wait: 10},
	}
	rows := []struct {
		now  int64
		want []string
	}{
		{-1, nil}, {0, []string{"m"}}, {5, []string{"m"}}, {6, []string{"m", "z"}}, {7, []string{"z", "m", "z"}}, {8, []string{"z", "a", "m", "z"}},
		{lastPollTime + 1, []string{"z", "a", "m", "z"}}, {math.MaxInt64, []string{"z", "a", "m", "z"}}, {math.MinInt64, nil},
	}
	for _, row := range rows {
		checkDue(t, l, row.now, row.want, "seven polls")
	}
	checkDue(t, nil, 7, nil, "no poll")
}

// Just those are due whose time has come: each one is, at its time and behind it, and is not ahead of it.
func TestDueAtItsTime(t *testing.T) {
	for _, next := range []int64{0, 1, 50, lastPollNow, lastPollTime - 1, lastPollTime} {
		p := impl.Poll{Url: "u", Next: next, Wait: 10}
		checkDue(t, []impl.Poll{p}, next, []string{"u"}, "just its time")
		checkDue(t, []impl.Poll{p}, next+1, []string{"u"}, "one behind it")
		checkDue(t, []impl.Poll{p}, next-1, nil, "one ahead of it")
	}
}

func TestDueLeavesOutWhatIsNotRight(t *testing.T) {
	for why, p := range wrongPolls() {
		checkDue(t, []impl.Poll{p}, lastPollTime, nil, why)
		checkDue(t, []impl.Poll{{Url: "a", Wait: 10}, p, {Url: "b", Wait: 10}}, lastPollTime, []string{"a", "b"}, why)
	}
	gone := impl.Poll{Url: "g", Wait: 10, Gone: true}
	checkDue(t, []impl.Poll{gone, {Url: "a", Wait: 10}, gone}, 0, []string{"a"}, "Gone among right ones")
}

func TestHowManyPollsAreAsked(t *testing.T) {
	for n := range 54 {
		var l []impl.Poll
		var want []string
		for i := range n {
			p := impl.Poll{Url: fmt.Sprintf("u%d", i*7%n), Next: int64(i % 3), Wait: 10, Gone: i%5 == 4}
			if l = append(l, p); n <= 50 && p.Next <= 1 && !p.Gone {
				want = append(want, p.Url)
			}
		}
		checkDue(t, l, 1, want, fmt.Sprintf("%d polls", n))
	}
	checkDue(t, slices.Repeat([]impl.Poll{{Url: "u", Wait: 10}}, 50), 0, slices.Repeat([]string{"u"}, 50), "50 polls")
	checkDue(t, slices.Repeat([]impl.Poll{{Url: "u", Wait: 10}}, 51), 0, nil, "51 polls")
	checkDue(t, append(make([]impl.Poll, 50), impl.Poll{Url: "u", Wait: 10}), 0, nil, "51 polls, of which 50 are not right")
	checkDue(t, append(make([]impl.Poll, 49), impl.Poll{Url: "u", Wait: 10}), 0, []string{"u"}, "50 polls, of which 49 are not right")
}

func TestManyPollsThatAreDue(t *testing.T) {
	r := fixedRandom()
	for range 2000 {
		var l []impl.Poll
		for range r.Intn(12) {
			l = append(l, impl.Poll{Url: fmt.Sprintf("u%d", r.Intn(5)), Next: r.Int63n(12) - 1, Wait: 9 + r.Int63n(5), Gone: r.Intn(4) == 0})
		}
		now := r.Int63n(14) - 1
		checkDue(t, l, now, knownDue(l, now), "some polls")
	}
}

func TestPollsAtTheSameTime(t *testing.T) {
	p, a := impl.Poll{Url: "u", Wait: 40}, impl.Answer{Code: 503, After: 90}
	want, _ := knownAfter(p, 5, a)
	var group sync.WaitGroup
	for range 8 {
		group.Go(func() {
			for range 200 {
				if got, ok := impl.PollAfter(p, 5, a); !ok || got != want {
					t.Error("the same arguments have another answer")
				}
			}
		})
	}
	group.Wait()
}
