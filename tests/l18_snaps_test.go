package tests

import (
	"fmt"
	"slices"
	"strings"
	"sync"
	"testing"

	"loop.example/g00569/impl"
)

var otherKey = countingFrom(7, 32)

func snapshot(t *testing.T, r impl.Reader) ([]impl.Op, bool) {
	t.Helper()
	r, unchanged := guardedReader(r)
	l, ok := impl.Snapshot(r)
	got := takenOps(t, l)
	if !unchanged() {
		t.Errorf("Snapshot wrote into %+v, or its answer shares memory with it", r)
	}
	return got, ok
}

func compacted(t *testing.T, key string, v impl.Vault) (impl.Vault, int64) {
	t.Helper()
	wasKey, was := strings.Clone(key), strings.Clone(v.Log)
	next, code := impl.Compacted(key, v)
	if key != wasKey || v.Log != was {
		t.Errorf("Compacted wrote into %q, or a log of %d bytes", wasKey, len(was))
	}
	return next, code
}

func rekeyed(t *testing.T, old string, key string, v impl.Vault) (impl.Vault, int64) {
	t.Helper()
	wasOld, wasKey, was := strings.Clone(old), strings.Clone(key), strings.Clone(v.Log)
	next, code := impl.Rekeyed(old, key, v)
	if old != wasOld || key != wasKey || v.Log != was {
		t.Errorf("Rekeyed wrote into %q, %q, or a log of %d bytes", wasOld, wasKey, len(was))
	}
	return next, code
}

// knownNeeds writes what each feed needs as texts, so that no field of an operation is too much.
func knownNeeds(r impl.Reader) []string {
	var out []string
	for _, s := range r.Subs {
		out = append(out, "add "+s.Url)
		f := impl.Feed{Url: s.Url, Title: s.Title}
		var marks []string
		for _, e := range s.Entries {
			f.Items = append(f.Items, e.Item)
			if e.Read {
				marks = append(marks, "read "+s.Url+" "+e.Item.Id)
			}
			if e.Star {
				marks = append(marks, "star "+s.Url+" "+e.Item.Id)
			}
		}
		if f.Title != "" || len(f.Items) > 0 {
			out = append(out, "fetch "+knownFeedText(f))
		}
		out = append(out, marks...)
	}
	return out
}

// checkSnapshot asks, too, that what the reader needs, done from nothing, leaves it.
func checkSnapshot(t *testing.T, r impl.Reader, why string) []impl.Op {
	t.Helper()
	l, ok := snapshot(t, r)
	if want := knownNeeds(r); !ok || !slices.Equal(textsOf(l), want) || !areRight(l) {
		t.Errorf("%s: %q, %t, want %q", why, textsOf(l), ok, want)
	}
	if left, count := folded(t, l); count != int64(len(l)) || !sameReader(left, r) {
		t.Errorf("%s: %d of %d operations leave %+v, want %+v", why, count, len(l), left, r)
	}
	if left, can := knownFolded(l); !can || !sameReader(left, r) {
		t.Errorf("%s: the operations leave %+v, %t, want %+v", why, left, can, r)
	}
	return l
}

func areRight(l []impl.Op) bool {
	return !slices.ContainsFunc(l, func(o impl.Op) bool { return !impl.OpOk(o) })
}

func TestSnapshotAsTheDocumentSays(t *testing.T) {
	r := readerOf(
		impl.Sub{Url: "a"},
		impl.Sub{Url: "b", Title: "B"},
		impl.Sub{Url: "c", Entries: []impl.Entry{entryOf("1", 0, "")}},
		subOf("d", entryOf("1", 20772, "s"), entryOf("2", 1, "rs"), entryOf("3", 2, ""), entryOf("4", 3, "r")),
		impl.Sub{Url: "e"},
	)
	want := []string{
		"add a",
		"add b", `fetch <feed url="b"><title>B</title></feed>`,
		"add c", `fetch <feed url="c"><title></title><item id="1" date="1970-01-01">t1</item></feed>`,
		"add d", `fetch <feed url="d"><title>Td</title><item id="1" date="2026-11-15">t1</item><item id="2" date="1970-01-02">t2</item><item id="3" date="1970-01-03">t3</item><item id="4" date="1970-01-04">t4</item></feed>`,
		"star d 1", "read d 2", "star d 2", "read d 4",
		"add e",
	}
	if l := checkSnapshot(t, r, "five feeds"); !slices.Equal(textsOf(l), want) {
		t.Errorf("%q, want %q", textsOf(l), want)
	}
	for _, r := range []impl.Reader{{}, {Subs: []impl.Sub{}}} {
		if l := checkSnapshot(t, r, "no feed"); len(l) != 0 {
			t.Errorf("no feed: %q", textsOf(l))
		}
	}
}

func TestSnapshotsOfFeeds(t *testing.T) {
	for _, title := range []string{"", " ", "T", strings.Repeat("~", 24)} {
		for _, entries := range [][]impl.Entry{nil, {}, {entryOf("1", 5, "")}, {entryOf("1", 5, "r"), entryOf("2", 5, "s")}} {
			s := impl.Sub{Url: "u", Title: title, Entries: entries}
			checkSnapshot(t, readerOf(s), "a feed alone")
			checkSnapshot(t, readerOf(subOf("a", entryOf("1", 1, "rs")), s, impl.Sub{Url: "v"}), "a feed between others")
		}
	}
}

func TestSnapshotsWithEveryChoiceOfMarks(t *testing.T) {
	marks := []string{"", "r", "s", "rs"}
	for n := range 4 * 4 * 4 {
		first, second, third := marks[n%4], marks[n/4%4], marks[n/16]
		r := readerOf(subOf("u", entryOf("1", 9, first), entryOf("2", 3, second)), subOf("v", entryOf("1", 4, third)))
		checkSnapshot(t, r, fmt.Sprintf("%q, %q and %q", first, second, third))
	}
}

func TestSnapshotsOfEachSize(t *testing.T) {
	for subs := range 7 {
		for entries := range 13 {
			checkSnapshot(t, wideReader(subs, entries), fmt.Sprintf("%d feeds with %d entries", subs, entries))
		}
	}
	checkSnapshot(t, fullEdges(), "all limits met")
}

func TestSnapshotsOfManyReaders(t *testing.T) {
	random := fixedRandom()
	var r impl.Reader
	for range 600 {
		if next, ok := impl.Done(r, randomOp(random)); ok {
			r = next
			checkSnapshot(t, r, "a reader")
		}
	}
}

func TestSnapshotRefuses(t *testing.T) {
	for why, r := range wrongReaders() {
		if l, ok := snapshot(t, r); ok || len(l) != 0 {
			t.Errorf("%s: %q, %t", why, textsOf(l), ok)
		}
	}
	if l, ok := snapshot(t, readerOf(impl.Sub{})); ok || len(l) != 0 {
		t.Errorf("a zero feed: %q, %t", textsOf(l), ok)
	}
}

// fullestReader needs more operations than any other one, and the longest ones.
func fullestReader() impl.Reader {
	var r impl.Reader
	for i := range impl.MaxSubs {
		s := impl.Sub{Url: strings.Repeat(`"`, 19) + string(rune('A'+i)), Title: longestFeed().Title}
		for _, item := range longestFeed().Items {
			s.Entries = append(s.Entries, impl.Entry{Item: item, Read: true, Star: true})
		}
		r.Subs = append(r.Subs, s)
	}
	return r
}

// knownAnew answers the vault that is made of a reader with a key.
func knownAnew(key string, r impl.Reader) impl.Vault {
	needs := knownNeeds(r)
	return impl.Vault{Log: strings.Join(knownBoxes(key, needs), ""), Count: int64(len(needs))}
}

func checkVault(t *testing.T, got impl.Vault, code int64, want impl.Vault, wantCode int64, why string) {
	t.Helper()
	if code != wantCode || got != want {
		t.Errorf("%s: code %d with %d bytes and %d, want %d with %d and %d", why, code, len(got.Log), got.Count, wantCode, len(want.Log), want.Count)
	}
}

// checkAnew makes the vault anew, with the same key and with another one, and opens what comes of it.
func checkAnew(t *testing.T, v knownVault, why string) {
	t.Helper()
	r, code := v.opened()
	for _, key := range []string{logKey, otherKey} {
		want := impl.Vault{}
		if code == impl.VcOk {
			want = knownAnew(key, r)
		}
		got, c := rekeyed(t, logKey, key, v.vault())
		checkVault(t, got, c, want, code, why)
		if key == logKey {
			got, c = compacted(t, logKey, v.vault())
			checkVault(t, got, c, want, code, why)
		}
		if code == impl.VcOk {
			checkSameReader(t, key, got, r, why)
		}
	}
}

func checkSameReader(t *testing.T, key string, v impl.Vault, want impl.Reader, why string) {
	t.Helper()
	if r, code := vaultOpen(t, key, v); code != impl.VcOk || !sameReader(r, want) {
		t.Errorf("%s: what is made anew opens with code %d as %+v, want %+v", why, code, r, want)
	}
	again, code := compacted(t, key, v)
	checkVault(t, again, code, v, impl.VcOk, why+", made anew again")
}

func TestVaultsMadeAnewWithEachCode(t *testing.T) {
	l := sixOps()
	for n := range len(l) + 1 {
		for _, torn := range tornEnds(l[:n]) {
			for _, count := range []int64{0, int64(n) - 2, int64(n) - 1, int64(n), int64(n) + 1, 400} {
				v := knownVault{l[:n], torn, max(count, 0)}
				checkAnew(t, v, fmt.Sprintf("%d boxes, Count %d, %d bytes behind", n, v.count, len(torn)))
			}
		}
	}
	for _, l := range [][]impl.Op{{dropOf("u")}, {addOf("u"), addOf("u")}, append(sixOps(), dropOf("v"))} {
		for _, count := range []int64{0, 1, int64(len(l)), 9} {
			checkAnew(t, knownVault{ops: l, count: count}, "operations that can not all be done")
		}
	}
}

func TestVaultsMadeAnewAsTheDocumentSays(t *testing.T) {
	f := feedWith("u", "T", "1", "x", 10)
	l := []impl.Op{addOf("v"), addOf("u"), fetchOf(f), markOf(impl.OpStar, "u", "1"), allOf("u"), markOf(impl.OpUnread, "u", "1"), markOf(impl.OpRead, "u", "1"), dropOf("v"), addOf("w")}
	needs := []impl.Op{addOf("u"), fetchOf(f), markOf(impl.OpRead, "u", "1"), markOf(impl.OpStar, "u", "1"), addOf("w")}
	v := knownVault{ops: l, torn: "torn", count: 8}.vault()
	got, code := compacted(t, logKey, v)
	checkVault(t, got, code, impl.Vault{Log: knownLog(logKey, needs), Count: 5}, impl.VcOk, "with the same key")
	got, code = rekeyed(t, logKey, otherKey, v)
	checkVault(t, got, code, impl.Vault{Log: knownLog(otherKey, needs), Count: 5}, impl.VcOk, "with another key")
	rows := []struct{ count, code int64 }{{7, impl.VcAhead}, {8, impl.VcOk}, {9, impl.VcOk}, {10, impl.VcBack}, {400, impl.VcBack}, {401, impl.VcForm}, {-1, impl.VcForm}}
	for _, row := range rows {
		v.Count = row.count
		_, code := compacted(t, logKey, v)
		checkCode(t, code, row.code, fmt.Sprintf("Count %d", row.count))
		_, code = rekeyed(t, logKey, otherKey, v)
		checkCode(t, code, row.code, fmt.Sprintf("Count %d, another key", row.count))
	}
	for _, key := range []string{logKey, otherKey} {
		got, code = rekeyed(t, logKey, key, impl.Vault{})
		checkVault(t, got, code, impl.Vault{}, impl.VcOk, "a vault of nothing")
		got, code = rekeyed(t, logKey, key, knownVault{ops: []impl.Op{addOf("u"), dropOf("u")}, count: 2}.vault())
		checkVault(t, got, code, impl.Vault{}, impl.VcOk, "a vault in which nothing is left")
	}
}

func TestVaultsThatAreNotRightMadeAnew(t *testing.T) {
	right := knownVault{ops: sixOps(), count: 6}.vault()
	check := func(key string, v impl.Vault, why string) {
		t.Helper()
		got, code := compacted(t, key, v)
		checkVault(t, got, code, impl.Vault{}, impl.VcForm, why)
		for _, next := range []string{logKey, otherKey, key, "", countedText(33)} {
			got, code = rekeyed(t, key, next, v)
			checkVault(t, got, code, impl.Vault{}, impl.VcForm, why)
		}
	}
	for _, n := range []int{0, 1, 31, 33, 64} {
		check(countedText(n), right, fmt.Sprintf("a key of %d bytes", n))
		check(countedText(n), impl.Vault{}, fmt.Sprintf("a key of %d bytes, no log", n))
	}
	for _, count := range wrongCounts {
		check(logKey, impl.Vault{Log: right.Log, Count: count}, fmt.Sprintf("Count %d", count))
	}
	for _, n := range []int{300001, 700001} {
		check(logKey, impl.Vault{Log: right.Log + zeros(n-len(right.Log)), Count: 6}, fmt.Sprintf("a log of %d bytes", n))
	}
	checkAnew(t, knownVault{sixOps(), zeros(300000 - len(right.Log)), 6}, "a log of 300000 bytes")
}

// That a new key is not so is told behind the codes of opening.
func TestNewKeysThatAreNotSo(t *testing.T) {
	bad := knownVault{ops: []impl.Op{dropOf("u")}, count: 1}.vault()
	right := knownVault{ops: sixOps(), count: 6}.vault()
	rows := []struct {
		v    impl.Vault
		code int64
	}{
		{right, impl.VcForm}, {impl.Vault{}, impl.VcForm}, {impl.Vault{Log: right.Log, Count: 5}, impl.VcForm},
		{impl.Vault{Log: right.Log, Count: 7}, impl.VcBack}, {impl.Vault{Log: right.Log, Count: 4}, impl.VcAhead}, {bad, impl.VcNot},
		{impl.Vault{Log: right.Log, Count: -1}, impl.VcForm}, {impl.Vault{Count: 1}, impl.VcBack},
	}
	for _, n := range []int{0, 1, 16, 31, 33, 64, 4001} {
		for i, row := range rows {
			got, code := rekeyed(t, logKey, countedText(n), row.v)
			checkVault(t, got, code, impl.Vault{}, row.code, fmt.Sprintf("vault %d, a new key of %d bytes", i, n))
		}
	}
	got, code := rekeyed(t, logKey, countedText(32), right)
	r, _ := knownFolded(sixOps())
	checkVault(t, got, code, knownAnew(countedText(32), r), impl.VcOk, "a new key of 32 bytes")
}

// With a key that is not the vault's no box is read: what then is told is what the counter says.
func TestOldKeysThatAreOthers(t *testing.T) {
	v := knownVault{ops: sixOps(), count: 6}.vault()
	for bit := range 8 * 32 {
		got, code := rekeyed(t, turned(logKey, bit), otherKey, v)
		checkVault(t, got, code, impl.Vault{}, impl.VcBack, "another key")
	}
	anew, code := rekeyed(t, logKey, otherKey, v)
	checkCode(t, code, impl.VcOk, "the key of the vault")
	checkOpenCode(t, logKey, anew, impl.VcBack, "what is made with another key")
	checkOpenCode(t, otherKey, v, impl.VcBack, "what was made with the key ahead")
}

// A reader never needs more than 156 boxes, so each vault that is opened has a log when it is made anew.
func TestVaultsWithManyBoxesMadeAnew(t *testing.T) {
	fullest := checkSnapshot(t, fullestReader(), "the fullest reader")
	if len(fullest) != 156 {
		t.Fatalf("the fullest reader needs %d operations", len(fullest))
	}
	url := fullestReader().Subs[0].Url
	for _, n := range []int{156, 157, 199, 200, 201, 399, 400} {
		l := slices.Clone(fullest)
		for i := range n - len(fullest) {
			l = append(l, markOf([]int64{impl.OpUnstar, impl.OpStar}[i%2], url, `"""""""&`))
		}
		checkAnew(t, knownVault{ops: l, count: int64(n)}, fmt.Sprintf("%d boxes", n))
		checkAnew(t, knownVault{ops: l, torn: "torn", count: int64(n) - 1}, fmt.Sprintf("%d boxes, one not counted", n))
	}
	for _, n := range []int{200, 201, 400, 401} {
		checkAnew(t, knownVault{ops: flips(n), count: min(int64(n), 400)}, fmt.Sprintf("%d boxes of which little is left", n))
	}
	checkAnew(t, knownVault{ops: flips(402), count: 400}, "402 boxes")
	checkAnew(t, knownVault{ops: flips(501), count: 400}, "501 boxes")
}

// What is made anew can be gone on with: the next box stands where LogOf would put it.
func TestMoreIsDoneInWhatIsMadeAnew(t *testing.T) {
	r := fixedRandom()
	key, v := logKey, impl.Vault{}
	var want impl.Reader
	for i := range 120 {
		o := randomOp(r)
		next, can := knownDone(want, o)
		got, code := vaultDo(t, key, v, o)
		if (code == impl.VcOk) != can {
			t.Fatalf("%s: code %d, want %t", knownOpText(o), code, can)
		}
		if !can {
			continue
		}
		v, want = got, next
		if i%3 == 0 {
			v, code = compacted(t, key, v)
			checkVault(t, v, code, knownAnew(key, want), impl.VcOk, "made anew")
		}
		if i%7 == 0 {
			fresh := randomText(r, 32)
			v, code = rekeyed(t, key, fresh, v)
			key = fresh
			checkVault(t, v, code, knownAnew(key, want), impl.VcOk, "made with another key")
		}
		checkSameLeft(t, key, v, want)
	}
}

func checkSameLeft(t *testing.T, key string, v impl.Vault, want impl.Reader) {
	t.Helper()
	if r, code := vaultOpen(t, key, v); code != impl.VcOk || !sameReader(r, want) {
		t.Errorf("code %d with %+v, want %+v", code, r, want)
	}
}

func TestSnapshotsAtTheSameTime(t *testing.T) {
	r := wideReader(6, 12)
	want := knownNeeds(r)
	v := knownVault{ops: sixOps(), count: 6}
	left, _ := v.opened()
	anew := knownAnew(otherKey, left)
	var group sync.WaitGroup
	for range 8 {
		group.Go(func() {
			for range 10 {
				l, ok := impl.Snapshot(r)
				got, code := impl.Rekeyed(logKey, otherKey, v.vault())
				if !ok || !slices.Equal(textsOf(l), want) || got != anew || code != impl.VcOk {
					t.Error("the same arguments have another answer")
				}
			}
		})
	}
	group.Wait()
}
