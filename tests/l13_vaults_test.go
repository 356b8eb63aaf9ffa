package tests

import (
	"fmt"
	"math"
	"slices"
	"strings"
	"sync"
	"testing"

	"loop.example/g00569/impl"
)

var wrongCounts = []int64{-1, 401, 402, -400, 1 << 32, math.MinInt64, math.MaxInt64, math.MaxInt64 - 1}

// A knownVault has its operations, and what stands behind their boxes; no log of it is ever read.
type knownVault struct {
	ops   []impl.Op
	torn  string
	count int64
}

func (v knownVault) vault() impl.Vault {
	return impl.Vault{Log: knownLog(logKey, v.ops) + v.torn, Count: v.count}
}

func knownFolded(l []impl.Op) (impl.Reader, bool) {
	r, ok := impl.Reader{}, len(l) <= 500
	for i := 0; ok && i < len(l); i++ {
		r, ok = knownDone(r, l[i])
	}
	return r, ok
}

func (v knownVault) opened() (impl.Reader, int64) {
	r, ok := knownFolded(v.ops)
	switch boxes := int64(len(v.ops)); {
	case !ok:
		return impl.Reader{}, impl.VcNot
	case boxes < v.count:
		return impl.Reader{}, impl.VcBack
	case boxes > v.count+1:
		return impl.Reader{}, impl.VcAhead
	}
	return r, impl.VcOk
}

// with answers the vault as it is where the code is not VcOk.
func (v knownVault) with(o impl.Op) (knownVault, int64) {
	if !impl.OpOk(o) {
		return v, impl.VcForm
	}
	r, code := v.opened()
	if code != impl.VcOk {
		return v, code
	}
	next := knownVault{ops: slices.Concat(v.ops, []impl.Op{o}), count: int64(len(v.ops)) + 1}
	if _, ok := knownDone(r, o); !ok || next.count > 400 || len(next.vault().Log) > 300000 {
		return v, impl.VcNot
	}
	return next, impl.VcOk
}

func checkOpened(t *testing.T, v knownVault, why string) {
	t.Helper()
	want, code := v.opened()
	got, c := vaultOpen(t, logKey, v.vault())
	if c != code || !sameReader(got, want) {
		t.Errorf("%s: code %d with %+v, want %d with %+v", why, c, got, code, want)
	}
}

func checkVaultDone(t *testing.T, v knownVault, o impl.Op, why string) knownVault {
	t.Helper()
	next, code := v.with(o)
	want := next.vault()
	if code != impl.VcOk {
		want = impl.Vault{}
	}
	if got, c := vaultDo(t, logKey, v.vault(), o); c != code || got != want {
		t.Errorf("%s: code %d with a log of %d bytes and %d, want %d with %d and %d", why, c, len(got.Log), got.Count, code, len(want.Log), want.Count)
	}
	return next
}

func checkCode(t *testing.T, got int64, want int64, why string) {
	t.Helper()
	if got != want {
		t.Errorf("%s: code %d, want %d", why, got, want)
	}
}

func checkOpenCode(t *testing.T, key string, v impl.Vault, want int64, why string) {
	t.Helper()
	r, code := vaultOpen(t, key, v)
	checkCode(t, code, want, why)
	if want != impl.VcOk && len(r.Subs) != 0 {
		t.Errorf("%s: a reader that is refused: %+v", why, r)
	}
}

// sixOps can all be done, and what each one did is seen behind it.
func sixOps() []impl.Op {
	return []impl.Op{addOf("u"), fetchOf(feedWith("u", "T", "1", "x", 10)), markOf(impl.OpStar, "u", "1"), addOf("v"), allOf("u"), dropOf("v")}
}

// tornEnds stand behind the boxes of the operations, and are none; one of them is most of the next box.
func tornEnds(l []impl.Op) []string {
	boxes := knownBoxes(logKey, textsOf(append(slices.Clone(l), addOf("next"))))
	next := boxes[len(l)]
	return []string{"", "x", "\x00", "\x00\x5c", next[:1], next[:len(next)/2], next[:len(next)-1], turned(next, 8*len(next)-1), turned(next, 0), boxes[0][:50], strings.Repeat("\xff", 1000)}
}

func TestVaultsWithEachCount(t *testing.T) {
	l := sixOps()
	for n := range len(l) + 1 {
		for _, torn := range tornEnds(l[:n]) {
			for count := int64(0); count < 10; count++ {
				checkOpened(t, knownVault{l[:n], torn, count}, fmt.Sprintf("%d boxes, Count %d, %d bytes behind", n, count, len(torn)))
			}
			for _, count := range []int64{399, 400} {
				checkOpened(t, knownVault{l[:n], torn, count}, fmt.Sprintf("%d boxes, Count %d", n, count))
			}
		}
	}
}

func TestVaultCodesAsTheDocumentSays(t *testing.T) {
	log := knownLog(logKey, sixOps())
	rows := []struct{ count, code int64 }{{4, impl.VcAhead}, {5, impl.VcOk}, {6, impl.VcOk}, {7, impl.VcBack}, {0, impl.VcAhead}, {400, impl.VcBack}, {401, impl.VcForm}, {-1, impl.VcForm}}
	for _, row := range rows {
		checkOpenCode(t, logKey, impl.Vault{Log: log, Count: row.count}, row.code, fmt.Sprintf("Count %d", row.count))
	}
	if [5]int64{impl.VcOk, impl.VcForm, impl.VcBack, impl.VcAhead, impl.VcNot} != [5]int64{0, 1, 2, 3, 4} {
		t.Error("the codes are others")
	}
}

func TestVaultsThatAreNotRight(t *testing.T) {
	right := knownVault{ops: sixOps(), count: 6}.vault()
	for _, n := range []int{0, 1, 16, 31, 33, 64} {
		checkWrongVault(t, countedText(n), right, fmt.Sprintf("a key of %d bytes", n))
		checkWrongVault(t, countedText(n), impl.Vault{}, fmt.Sprintf("a key of %d bytes, no log", n))
	}
	for _, count := range wrongCounts {
		checkWrongVault(t, logKey, impl.Vault{Log: right.Log, Count: count}, fmt.Sprintf("Count %d", count))
		checkWrongVault(t, logKey, impl.Vault{Count: count}, fmt.Sprintf("Count %d, no log", count))
	}
	for _, n := range []int{300001, 300002, 700000, 700001} {
		checkWrongVault(t, logKey, impl.Vault{Log: right.Log + zeros(n-len(right.Log)), Count: 6}, fmt.Sprintf("a log of %d bytes", n))
		checkWrongVault(t, logKey, impl.Vault{Log: zeros(n)}, fmt.Sprintf("%d noughts", n))
	}
}

// checkWrongVault asks all three functions, with what is right beside it and with what is not.
func checkWrongVault(t *testing.T, key string, v impl.Vault, why string) {
	t.Helper()
	checkOpenCode(t, key, v, impl.VcForm, why)
	for _, o := range []impl.Op{addOf("new"), addOf("u"), {}} {
		next, code := vaultDo(t, key, v, o)
		checkCode(t, code, impl.VcForm, why)
		played, codes := vaultPlay(t, key, v, []impl.Op{o})
		if next != (impl.Vault{}) || played != (impl.Vault{}) || len(codes) != 0 {
			t.Errorf("%s: something is left: %d and %d bytes, %d", why, len(next.Log), len(played.Log), codes)
		}
	}
	if played, codes := vaultPlay(t, key, v, nil); played != (impl.Vault{}) || len(codes) != 0 {
		t.Errorf("%s: %d bytes, %d, of nothing to be played", why, len(played.Log), codes)
	}
}

func TestLogsOfVaultsAtTheirLimit(t *testing.T) {
	l := sixOps()
	log := knownLog(logKey, l)
	for _, n := range []int{299999, 300000} {
		for _, fill := range []string{"\x00", "\xff"} {
			v := knownVault{l, strings.Repeat(fill, n-len(log)), 6}
			checkOpened(t, v, fmt.Sprintf("%d bytes", n))
			checkVaultDone(t, v, addOf("w"), fmt.Sprintf("%d bytes", n))
		}
	}
	checkOpenCode(t, logKey, impl.Vault{Log: zeros(300000)}, impl.VcOk, "300000 noughts")
}

func TestLogsThatAreOlderThanTheirCounter(t *testing.T) {
	l := sixOps()
	boxes := knownBoxes(logKey, textsOf(l))
	log := strings.Join(boxes, "")
	for cut := range len(log) {
		checkOpenCode(t, logKey, impl.Vault{Log: log[:cut], Count: 6}, impl.VcBack, fmt.Sprintf("cut off at %d", cut))
	}
	for n := range len(l) {
		older := impl.Vault{Log: strings.Join(boxes[:n], "") + "noise", Count: 6}
		checkOpenCode(t, logKey, older, impl.VcBack, "an older log and more")
		next, code := vaultDo(t, logKey, older, addOf("w"))
		checkCode(t, code, impl.VcBack, "an operation on an older log")
		if next != (impl.Vault{}) {
			t.Errorf("a vault that is refused has %d bytes", len(next.Log))
		}
	}
	for bit := 0; bit < 8*len(log); bit += 5 {
		checkOpenCode(t, logKey, impl.Vault{Log: turned(log, bit), Count: 6}, impl.VcBack, fmt.Sprintf("bit %d is turned", bit))
	}
	for bit := range 8 * 32 {
		checkOpenCode(t, turned(logKey, bit), impl.Vault{Log: log, Count: 6}, impl.VcBack, "another key")
	}
}

// That the operations can not all be done is told ahead of what the counter says.
func TestOperationsThatFoldedDoesNotTake(t *testing.T) {
	lists := [][]impl.Op{
		{dropOf("u")}, {addOf("u"), addOf("u")}, {addOf("u"), addOf("u"), addOf("v")}, {addOf("u"), markOf(impl.OpRead, "u", "1")},
		append(sixOps(), dropOf("v")), append(manyAdds(6), addOf("z")), append(sixOps(), markOf(impl.OpStar, "u", "2"), addOf("w")),
	}
	for i, l := range lists {
		for _, torn := range tornEnds(l) {
			for count := int64(0); count < 12; count++ {
				v := knownVault{l, torn, count}.vault()
				checkOpenCode(t, logKey, v, impl.VcNot, fmt.Sprintf("list %d, Count %d", i, count))
			}
		}
		v := knownVault{ops: l, count: int64(len(l))}
		checkVaultDone(t, v, addOf("new"), fmt.Sprintf("list %d", i))
		checkVaultDone(t, v, impl.Op{}, fmt.Sprintf("list %d, and an operation that is not right", i))
	}
}

func TestVaultsWithManyBoxes(t *testing.T) {
	boxes := knownBoxes(logKey, textsOf(flips(502)))
	rows := []struct {
		boxes       int
		count, code int64
	}{
		{398, 399, impl.VcBack}, {399, 399, impl.VcOk}, {400, 399, impl.VcOk}, {401, 399, impl.VcAhead},
		{399, 400, impl.VcBack}, {400, 400, impl.VcOk}, {401, 400, impl.VcOk}, {402, 400, impl.VcAhead},
		{499, 400, impl.VcAhead}, {500, 400, impl.VcAhead}, {501, 400, impl.VcNot}, {502, 400, impl.VcNot}, {502, 0, impl.VcNot}, {400, 401, impl.VcForm}, {401, 401, impl.VcForm},
	}
	for _, row := range rows {
		v := impl.Vault{Log: strings.Join(boxes[:row.boxes], ""), Count: row.count}
		why := fmt.Sprintf("%d boxes, Count %d", row.boxes, row.count)
		r, code := vaultOpen(t, logKey, v)
		checkCode(t, code, row.code, why)
		if want := boolRank(code == impl.VcOk) * (row.boxes % 2); len(r.Subs) != want {
			t.Errorf("%s: %d feeds, want %d", why, len(r.Subs), want)
		}
		want, doing := impl.Vault{}, row.code
		if row.code == impl.VcOk && row.boxes < 400 {
			want = impl.Vault{Log: strings.Join(boxes[:row.boxes+1], ""), Count: int64(row.boxes) + 1}
		} else if row.code == impl.VcOk {
			doing = impl.VcNot
		}
		got, code := vaultDo(t, logKey, v, flips(502)[row.boxes%2])
		checkCode(t, code, doing, why+", one more")
		if got != want {
			t.Errorf("%s: one more leaves %d bytes and %d", why, len(got.Log), got.Count)
		}
	}
}

func TestWhatIsDoneInAVault(t *testing.T) {
	for _, o := range append(nineOps(), fetchOf(longestFeed()), addOf("new"), dropOf("none"), markOf(impl.OpRead, "u", "none")) {
		for n := range 7 {
			for _, torn := range tornEnds(sixOps()[:n]) {
				for _, less := range []int64{0, 1} {
					v := knownVault{sixOps()[:n], torn, max(0, int64(n)-less)}
					next := checkVaultDone(t, v, o, fmt.Sprintf("%s behind %d boxes, Count %d", knownOpText(o), n, v.count))
					checkOpened(t, next, "behind it")
				}
			}
		}
	}
}

func TestOperationsThatAreNotRightInAVault(t *testing.T) {
	vaults := []knownVault{{}, {ops: sixOps(), count: 6}, {ops: sixOps(), count: 7}, {ops: sixOps(), count: 2}, {ops: []impl.Op{dropOf("u")}, count: 1}}
	for why, o := range wrongOps() {
		for _, v := range vaults {
			got, code := vaultDo(t, logKey, v.vault(), o)
			checkCode(t, code, impl.VcForm, why)
			if got != (impl.Vault{}) {
				t.Errorf("%s: a vault of %d bytes", why, len(got.Log))
			}
		}
	}
}

// A box that is not counted yet is counted with the next one, whose number and place are behind it.
func TestABoxThatIsNotCountedYet(t *testing.T) {
	v := impl.Vault{Log: knownLog(logKey, manyAdds(3)), Count: 2}
	got, code := vaultDo(t, logKey, v, addOf("u3"))
	checkCode(t, code, impl.VcOk, "a box that is not counted")
	if want := (impl.Vault{Log: knownLog(logKey, manyAdds(4)), Count: 4}); got != want {
		t.Errorf("%d bytes and %d", len(got.Log), got.Count)
	}
	_, code = vaultDo(t, logKey, v, addOf("u2"))
	checkCode(t, code, impl.VcNot, "what the box that is not counted did")
}

// feedOfBlocks has so many blocks of 64 bytes in its box.
func feedOfBlocks(t *testing.T, blocks int) impl.Op {
	t.Helper()
	whole := longestFeed()
	for items := range 13 {
		for title := range 25 {
			o := fetchOf(impl.Feed{Url: "u", Title: strings.Repeat(`"`, title), Items: whole.Items[:items]})
			if len(knownPadded(knownOpText(o), 64)) == 64*blocks {
				return o
			}
		}
	}
	t.Fatalf("no feed has %d blocks", blocks)
	return impl.Op{}
}

// fullVault has a log of so many boxes of 64 bytes each and 30 more: 30 times boxes and 64 times blocks bytes.
func fullVault(t *testing.T, boxes int, blocks int) []impl.Op {
	t.Helper()
	l := []impl.Op{addOf("u")}
	wide := feedOfBlocks(t, 46)
	for left := blocks - 1; len(l) < boxes; {
		most := min(46, left-(boxes-len(l)-1))
		o := wide
		if most == 1 {
			o = allOf("u")
		} else if most < 46 {
			o = feedOfBlocks(t, most)
		}
		l, left = append(l, o), left-most
	}
	if n := len(knownLog(logKey, l)); n != 30*boxes+64*blocks {
		t.Fatalf("%d bytes", n)
	}
	return l
}

func TestVaultsWithoutRoomForABox(t *testing.T) {
	rows := []struct{ boxes, blocks, bytes int }{{112, 4635, 300000}, {127, 4628, 300002}, {112, 4634, 299936}, {112, 4636, 300064}}
	for _, row := range rows {
		l := fullVault(t, row.boxes, row.blocks)
		last := len(l) - 1
		v := knownVault{ops: l[:last], count: int64(last)}
		next := checkVaultDone(t, v, l[last], fmt.Sprintf("%d bytes", row.bytes))
		if (len(next.ops) == len(l)) != (row.bytes <= 300000) || len(knownLog(logKey, l)) != row.bytes {
			t.Errorf("%d bytes: %d boxes", row.bytes, len(next.ops))
		}
		v.torn = zeros(300000 - len(v.vault().Log))
		checkVaultDone(t, v, l[last], fmt.Sprintf("%d bytes, the log of 300000", row.bytes))
		if row.bytes == 300000 {
			checkOpened(t, next, "a log of 300000 bytes")
			checkVaultDone(t, next, addOf("w"), "no room at all")
		}
	}
}

func checkPlayed(t *testing.T, v knownVault, l []impl.Op, why string) knownVault {
	t.Helper()
	was := v.vault()
	var want []int64
	for _, o := range l {
		next, code := v.with(o)
		v, want = next, append(want, code)
	}
	got, codes := vaultPlay(t, logKey, was, l)
	if got != v.vault() || !slices.Equal(codes, want) {
		t.Errorf("%s: %d bytes, %d and codes %d, want %d, %d and %d", why, len(got.Log), got.Count, codes, len(v.vault().Log), v.count, want)
	}
	return v
}

func TestPlays(t *testing.T) {
	mixed := []impl.Op{addOf("w"), addOf("w"), {}, dropOf("none"), addOf("x"), {Kind: 10}, allOf("w")}
	for n := range 7 {
		for _, torn := range tornEnds(sixOps()[:n]) {
			for count := int64(0); count < 9; count++ {
				v := knownVault{sixOps()[:n], torn, count}
				why := fmt.Sprintf("%d boxes, Count %d, %d bytes behind", n, count, len(torn))
				checkPlayed(t, v, mixed, why)
				checkPlayed(t, v, []impl.Op{{}, addOf("x")}, why)
				checkPlayed(t, v, []impl.Op{dropOf("none"), {}}, why+", nothing can be done")
				checkPlayed(t, v, nil, why+", nothing is to be done")
			}
		}
	}
	checkPlayed(t, knownVault{ops: []impl.Op{dropOf("u")}, count: 1}, mixed, "a log that can not be folded")
}

func TestHowManyArePlayed(t *testing.T) {
	for _, n := range []int{0, 1, 99, 100} {
		v := checkPlayed(t, knownVault{}, flips(n), fmt.Sprintf("%d operations", n))
		if len(v.ops) != n {
			t.Errorf("%d of %d operations are done", len(v.ops), n)
		}
	}
	right := knownVault{ops: sixOps(), count: 6}.vault()
	for _, n := range []int{101, 102, 1000} {
		for _, l := range [][]impl.Op{flips(n), make([]impl.Op, n)} {
			for _, v := range []impl.Vault{{}, right, {Log: right.Log, Count: 9}, {Count: -1}} {
				if got, codes := vaultPlay(t, logKey, v, l); got != (impl.Vault{}) || len(codes) != 0 {
					t.Errorf("%d operations: %d bytes, codes %d", n, len(got.Log), codes)
				}
			}
		}
	}
	checkPlayed(t, knownVault{ops: sixOps(), count: 6}, make([]impl.Op, 100), "100 operations that are not right")
}

func TestPlaysAtTheLimitOfBoxes(t *testing.T) {
	for _, boxes := range []int{396, 399, 400} {
		for _, less := range []int64{0, 1} {
			v := knownVault{ops: flips(boxes), torn: "torn", count: int64(boxes) - less}
			got := checkPlayed(t, v, flips(6 + boxes%2)[boxes%2:], fmt.Sprintf("%d boxes, Count %d", boxes, v.count))
			if len(got.ops) != 400 {
				t.Errorf("%d boxes at the end", len(got.ops))
			}
		}
	}
}

// What is done one by one is what is played, and is there when the vault is opened.
func TestManyOperationsInAVault(t *testing.T) {
	r := fixedRandom()
	for range 6 {
		v, one := knownVault{}, impl.Vault{}
		for range 3 {
			var l []impl.Op
			for range 10 + r.Intn(15) {
				l = append(l, randomOp(r))
			}
			v = checkPlayed(t, v, l, "one more play")
			for _, o := range l {
				if next, code := vaultDo(t, logKey, one, o); code == impl.VcOk {
					one = next
				}
			}
			if one != v.vault() {
				t.Errorf("one by one: %d bytes and %d", len(one.Log), one.Count)
			}
			checkOpened(t, v, "behind a play")
		}
	}
}

func TestVaultsAtTheSameTime(t *testing.T) {
	v := knownVault{ops: sixOps(), torn: "torn", count: 5}
	next, _ := v.with(addOf("w"))
	var group sync.WaitGroup
	for range 8 {
		group.Go(func() {
			for range 20 {
				if got, code := impl.VaultDo(logKey, v.vault(), addOf("w")); got != next.vault() || code != impl.VcOk {
					t.Error("the same arguments have another answer")
				}
			}
		})
	}
	group.Wait()
}
