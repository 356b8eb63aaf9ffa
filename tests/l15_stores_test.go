package tests

import (
	"fmt"
	"math"
	"math/rand"
	"slices"
	"strings"
	"sync"
	"testing"

	"loop.example/g00569/impl"
)

// A knownStop is how the model leaves an act, from however deep.
type knownStop struct {
	code int64
}

// A knownStore makes the steps of an act one by one.
type knownStore struct {
	was   impl.Store
	now   impl.Store
	power int64
}

// knownLogOf is what opening a log finds.
type knownLogOf struct {
	log    string
	ops    []impl.Op
	end    int64
	reader impl.Reader
}

func (k *knownStore) refuse(code int64) {
	k.now = k.was
	panic(knownStop{code})
}

func (k *knownStore) spend() {
	if k.power == 0 {
		panic(knownStop{impl.StPower})
	}
	if k.power > 0 {
		k.power--
	}
}

func (k *knownStore) do(op impl.DOp) {
	k.spend()
	next, code := knownDo(k.now.Disk, op)
	if code != impl.DkOk {
		k.refuse(impl.StFull)
	}
	k.now.Disk = next
}

func (k *knownStore) sync() {
	k.spend()
	k.now.Disk = knownSync(k.now.Disk)
}

func (k *knownStore) count(n int) {
	k.spend()
	k.now.Count = int64(n)
}

func (k *knownStore) has(name string) bool {
	_, there := knownFilesOf(k.now.Disk.Live)[name]
	return there
}

func (k *knownStore) view() knownLogOf {
	if !k.has("log") {
		k.refuse(impl.StNone)
	}
	in := knownLogOf{log: knownFilesOf(k.now.Disk.Live)["log"]}
	in.ops, in.end = impl.ReadLog(logKey, in.log)
	r, ok := knownFolded(in.ops)
	in.reader = r
	switch boxes := int64(len(in.ops)); {
	case !ok:
		k.refuse(impl.StNot)
	case boxes < k.now.Count:
		k.refuse(impl.StBack)
	case boxes > k.now.Count+1:
		k.refuse(impl.StAhead)
	}
	return in
}

func (k *knownStore) open() {
	in := k.view()
	if in.end != int64(len(in.log)) {
		if k.has("log.new") {
			k.do(removeOf("log.new"))
		}
		k.do(appendOf("log.new", in.log[:in.end]))
		k.sync()
		k.do(renameOf("log.new", "log"))
		k.sync()
	}
	if len(in.ops) > int(k.now.Count) {
		k.count(len(in.ops))
	}
}

func (k *knownStore) op(o impl.Op) {
	in := k.view()
	if !impl.OpOk(o) {
		k.refuse(impl.StForm)
	}
	if in.end != int64(len(in.log)) || int64(len(in.ops)) != k.now.Count {
		k.refuse(impl.StTorn)
	}
	if _, ok := knownDone(in.reader, o); !ok {
		k.refuse(impl.StNot)
	}
	if len(in.ops) == 400 {
		k.refuse(impl.StFull)
	}
	last := noBox
	if in.log != "" {
		last = in.log[len(in.log)-16:]
	}
	k.do(appendOf("log", framed(knownBox(logKey, int64(len(in.ops))+1, last, knownPadded(knownOpText(o), 64)))))
	k.sync()
	k.count(len(in.ops) + 1)
}

func (k *knownStore) act(a impl.Act) {
	switch a.Kind {
	case impl.AcForge:
		k.power = -1
		if k.has("log") {
			k.do(removeOf("log"))
		}
		k.do(appendOf("log", a.Data))
		k.sync()
	case impl.AcNew:
		if k.has("log") || k.now.Count != 0 {
			k.refuse(impl.StForm)
		}
		k.do(appendOf("log", ""))
		k.sync()
	case impl.AcOpen:
		k.open()
	case impl.AcOp:
		k.op(a.Op)
	case impl.AcCrash:
		left, ok := knownCrash(k.now.Disk, a.Keep, a.Torn)
		if !ok {
			k.refuse(impl.StForm)
		}
		k.now.Disk = left
		k.was = k.now
		k.open()
	default:
		k.refuse(impl.StForm)
	}
}

// stoppedAt runs what may stop, and answers the code with which it did.
func stoppedAt(run func()) (code int64) {
	defer func() {
		if left := recover(); left != nil {
			code = left.(knownStop).code
		}
	}()
	run()
	return impl.StOk
}

func knownStoreOk(s impl.Store) bool {
	return s.Count >= 0 && s.Count <= 400 && knownDiskOk(s.Disk)
}

// knownAct is what StoreDo answers with the key of the tests.
func knownAct(s impl.Store, a impl.Act) (impl.Store, int64) {
	if !knownStoreOk(s) {
		return impl.Store{}, impl.StDisk
	}
	k := &knownStore{was: s, now: s, power: a.Power}
	code := stoppedAt(func() { k.act(a) })
	return k.now, code
}

func knownView(s impl.Store) (impl.Reader, int64) {
	if !knownStoreOk(s) {
		return impl.Reader{}, impl.StDisk
	}
	var in knownLogOf
	code := stoppedAt(func() { in = (&knownStore{was: s, now: s}).view() })
	return in.reader, code
}

func checkView(t *testing.T, s impl.Store, why string) {
	t.Helper()
	want, code := knownView(s)
	got, c := storeView(t, logKey, s)
	if c != code || !sameReader(got, want) {
		t.Errorf("%s: code %d with %+v, want %d with %+v", why, c, got, code, want)
	}
}

func checkAct(t *testing.T, s impl.Store, a impl.Act, why string) (impl.Store, int64) {
	t.Helper()
	want, code := knownAct(s, a)
	got, c := storeDo(t, logKey, s, a)
	if c != code || !sameStore(got, want) {
		t.Errorf("%s: Kind %d, Power %d: code %d, want %d, Count %d, want %d, %.300v, want %.300v", why, a.Kind, a.Power, c, code, got.Count, want.Count, got.Disk, want.Disk)
	}
	return got, c
}

func newAct() impl.Act              { return impl.Act{Kind: impl.AcNew, Power: -1} }
func openAct() impl.Act             { return impl.Act{Kind: impl.AcOpen, Power: -1} }
func opAct(o impl.Op) impl.Act      { return impl.Act{Kind: impl.AcOp, Op: o, Power: -1} }
func forgeAct(data string) impl.Act { return impl.Act{Kind: impl.AcForge, Data: data} }

func crashAct(keep []int64, torn int64) impl.Act {
	return impl.Act{Kind: impl.AcCrash, Keep: keep, Torn: torn, Power: -1}
}

func withPower(a impl.Act, power int64) impl.Act {
	a.Power = power
	return a
}

// must does an act that is to end with StOk.
func must(t *testing.T, s impl.Store, a impl.Act) impl.Store {
	t.Helper()
	next, code := storeDo(t, logKey, s, a)
	if code != impl.StOk {
		t.Fatalf("Kind %d: code %d", a.Kind, code)
	}
	return next
}

// storeWith has a synced disk with the log of the operations, with what is torn behind it, and other files.
func storeWith(ops []impl.Op, torn string, count int64, others ...string) impl.Store {
	k := knownFilesOf(filesOf(others...))
	k["log"] = knownLog(logKey, ops) + torn
	return impl.Store{Disk: impl.Disk{Live: k.list(), Safe: k.list()}, Count: count}
}

// on has one op more, that is not synced.
func on(s impl.Store, op impl.DOp) impl.Store {
	next, _ := knownDo(s.Disk, op)
	return impl.Store{Disk: next, Count: s.Count}
}

func logIn(s impl.Store) string {
	return knownFilesOf(s.Disk.Live)["log"]
}

// someActs have one of each Kind, and some that are refused.
func someActs() []impl.Act {
	l := []impl.Act{newAct(), openAct(), crashAct(nil, 0), crashAct([]int64{0}, 3), crashAct([]int64{0, 1}, 50), crashAct([]int64{1}, 999), crashAct([]int64{0}, -1), forgeAct(""), forgeAct("noise"), forgeAct(knownLog(logKey, sixOps()[:2])), {}}
	for _, o := range []impl.Op{addOf("w"), addOf("u"), fetchOf(longestFeed()), dropOf("u"), {}, {Kind: impl.OpAdd}} {
		l = append(l, opAct(o))
	}
	return l
}

// someStores are right, with all that may be in the way of an act.
func someStores() map[string]impl.Store {
	l := sixOps()[:3]
	next := knownBoxes(logKey, textsOf(append(slices.Clone(l), addOf("w"))))[3]
	out := map[string]impl.Store{
		"the zero value":       {},
		"no log":               {Disk: diskWith(filesOf("a", "one", "log.new", "left"))},
		"no log, but a Count":  {Count: 3},
		"an empty log":         storeWith(nil, "", 0),
		"a log not synced":     {Disk: diskWith(nil, appendOf("log", ""))},
		"a log that was":       {Disk: diskWith(filesOf("log", "old"), removeOf("log")), Count: 0},
		"noise":                storeWith(nil, "noise", 0),
		"noise, but a Count":   storeWith(nil, "noise", 2),
		"can not be folded":    storeWith([]impl.Op{addOf("u"), addOf("u")}, "", 2),
		"not folded, and torn": storeWith([]impl.Op{addOf("u"), addOf("u")}, "torn", 9),
		"a box not synced":     on(storeWith(l, "", 3), appendOf("log", next)),
		"a part not synced":    on(storeWith(l, "", 3), appendOf("log", next[:40])),
		"renamed, not synced":  on(on(storeWith(l, "torn", 3), appendOf("log.new", knownLog(logKey, l))), renameOf("log.new", "log")),
		"all ops":              {Disk: diskWith(storeWith(l, "", 3).Disk.Safe, manyAppends(200)...), Count: 3},
		"all ops, torn":        {Disk: diskWith(storeWith(l, "torn", 3).Disk.Safe, manyAppends(200)...), Count: 3},
	}
	for _, torn := range []string{"", "torn", next[:len(next)-1]} {
		for count := int64(0); count <= 5; count++ {
			out[fmt.Sprintf("Count %d, %d bytes torn", count, len(torn))] = storeWith(l, torn, count, "a", "one", "z", "other")
			out[fmt.Sprintf("Count %d, %d bytes torn, log.new", count, len(torn))] = storeWith(l, torn, count, "log.new", "left")
		}
	}
	for _, left := range []int{1, 2, 3} {
		ops := slices.Repeat([]impl.DOp{appendOf("a", "")}, 200-left)
		for _, torn := range []string{"", "torn"} {
			out[fmt.Sprintf("room for %d ops, %d bytes torn", left, len(torn))] = impl.Store{Disk: diskWith(storeWith(l, torn, 3, "a", "").Disk.Safe, ops...), Count: 3}
			out[fmt.Sprintf("room for %d ops, %d bytes torn, log.new", left, len(torn))] = impl.Store{Disk: diskWith(storeWith(l, torn, 3, "a", "", "log.new", "left").Disk.Safe, ops...), Count: 3}
		}
		out[fmt.Sprintf("room for %d ops, no log", left)] = impl.Store{Disk: diskWith(filesOf("a", ""), ops...)}
	}
	return out
}

func TestActsOnEachStoreWithEachPower(t *testing.T) {
	for why, s := range someStores() {
		checkView(t, s, why)
		for _, a := range someActs() {
			for power := range int64(8) {
				checkAct(t, s, withPower(a, power), why)
			}
			checkAct(t, s, withPower(a, math.MaxInt64), why)
			checkAct(t, s, withPower(a, math.MinInt64), why)
			next, _ := checkAct(t, s, withPower(a, -1), why)
			checkView(t, next, why+", behind an act")
		}
	}
}

func TestStoresThatAreNotRight(t *testing.T) {
	right := storeWith(sixOps(), "", 6)
	for _, n := range []int{0, 1, 16, 31, 33, 64} {
		checkWrongStore(t, countedText(n), right, fmt.Sprintf("a key of %d bytes", n))
		checkWrongStore(t, countedText(n), impl.Store{}, fmt.Sprintf("a key of %d bytes, no log", n))
	}
	for _, count := range wrongCounts {
		checkWrongStore(t, logKey, impl.Store{Disk: right.Disk, Count: count}, fmt.Sprintf("Count %d", count))
		checkWrongStore(t, logKey, impl.Store{Count: count}, fmt.Sprintf("Count %d, no log", count))
	}
	for why, d := range wrongDisks() {
		checkWrongStore(t, logKey, impl.Store{Disk: d}, why)
	}
}

func checkWrongStore(t *testing.T, key string, s impl.Store, why string) {
	t.Helper()
	r, code := storeView(t, key, s)
	checkCode(t, code, impl.StDisk, why)
	if len(r.Subs) != 0 {
		t.Errorf("%s: a reader", why)
	}
	for _, a := range append(someActs(), impl.Act{Kind: -1}) {
		next, code := storeDo(t, key, s, a)
		checkCode(t, code, impl.StDisk, why)
		if !noStore(next) {
			t.Errorf("%s: Kind %d leaves a store", why, a.Kind)
		}
	}
	for _, l := range [][]impl.Act{nil, {openAct()}, someActs()} {
		if next, codes := storePlay(t, key, s, l); !noStore(next) || len(codes) != 0 {
			t.Errorf("%s: a play leaves %+v and %d", why, next, codes)
		}
	}
}

func TestKindsOfActsThatThereAreNot(t *testing.T) {
	for why, s := range someStores() {
		for _, kind := range []int64{0, 6, -1, 7, 256 + 1, 1<<32 + 1, math.MinInt64, math.MaxInt64} {
			for _, power := range []int64{-1, 0, 5} {
				next, code := storeDo(t, logKey, s, impl.Act{Kind: kind, Op: addOf("w"), Power: power})
				checkCode(t, code, impl.StForm, why)
				if !sameStore(next, s) {
					t.Errorf("%s: Kind %d does something", why, kind)
				}
			}
		}
	}
}

func TestViewsAsTheDocumentSays(t *testing.T) {
	l := sixOps()
	rows := []struct {
		s     impl.Store
		code  int64
		feeds int
	}{
		{impl.Store{}, impl.StNone, 0}, {impl.Store{Count: 400}, impl.StNone, 0}, {impl.Store{Count: 401}, impl.StDisk, 0},
		{storeWith(nil, "", 0), impl.StOk, 0}, {storeWith(nil, "noise", 0), impl.StOk, 0}, {storeWith(nil, "", 1), impl.StBack, 0},
		{storeWith(l, "", 4), impl.StAhead, 0}, {storeWith(l, "", 5), impl.StOk, 1}, {storeWith(l, "", 6), impl.StOk, 1}, {storeWith(l, "", 7), impl.StBack, 0},
		{storeWith(l[:5], "", 5), impl.StOk, 2}, {storeWith(l[:5], "torn", 5), impl.StOk, 2}, {storeWith(l, "torn", 7), impl.StBack, 0},
		{storeWith([]impl.Op{dropOf("u")}, "", 0), impl.StNot, 0}, {storeWith([]impl.Op{dropOf("u")}, "", 5), impl.StNot, 0},
		{impl.Store{Disk: diskWith(filesOf("log.new", knownLog(logKey, l))), Count: 6}, impl.StNone, 0},
		{impl.Store{Disk: diskWith(filesOf("log", ""), removeOf("log"))}, impl.StNone, 0},
		{impl.Store{Disk: diskWith(nil, appendOf("log", knownLog(logKey, l))), Count: 6}, impl.StOk, 1},
	}
	for i, row := range rows {
		r, code := storeView(t, logKey, row.s)
		checkCode(t, code, row.code, fmt.Sprintf("row %d", i))
		if len(r.Subs) != row.feeds {
			t.Errorf("row %d: %d feeds, want %d", i, len(r.Subs), row.feeds)
		}
	}
	codes := []int64{impl.StOk, impl.StDisk, impl.StNone, impl.StForm, impl.StFull, impl.StPower, impl.StBack, impl.StAhead, impl.StNot, impl.StTorn}
	if !slices.Equal(codes, []int64{0, 1, 2, 3, 4, 5, 6, 7, 8, 9}) || [5]int64{impl.AcNew, impl.AcOp, impl.AcOpen, impl.AcCrash, impl.AcForge} != [5]int64{1, 2, 3, 4, 5} {
		t.Error("the codes are others")
	}
}

// How many steps each act makes: with one less it ends with StPower, with as many with StOk.
func TestHowManySteps(t *testing.T) {
	l := sixOps()
	rows := []struct {
		why   string
		s     impl.Store
		a     impl.Act
		steps int64
	}{
		{"a new log", impl.Store{}, newAct(), 2},
		{"an operation", storeWith(l, "", 6), opAct(addOf("w")), 3},
		{"nothing to be opened", storeWith(l, "", 6), openAct(), 0},
		{"a box to be counted", storeWith(l, "", 5), openAct(), 1},
		{"a torn log", storeWith(l, "torn", 6), openAct(), 4},
		{"a torn log, log.new", storeWith(l, "torn", 6, "log.new", ""), openAct(), 5},
		{"a torn log, a box to be counted", storeWith(l, "torn", 5), openAct(), 5},
		{"all at once", storeWith(l, "torn", 5, "log.new", ""), openAct(), 6},
		{"a crash", storeWith(l, "", 6), crashAct(nil, 0), 0},
		{"a crash, all at once", storeWith(l, "torn", 5, "log.new", ""), crashAct(nil, 0), 6},
	}
	for _, row := range rows {
		last := row.s
		for power := range row.steps + 3 {
			next, code := checkAct(t, row.s, withPower(row.a, power), row.why)
			want := int64(impl.StOk)
			if power < row.steps {
				want = impl.StPower
			}
			checkCode(t, code, want, fmt.Sprintf("%s, Power %d", row.why, power))
			if same := sameStore(next, last); same != (power == 0 || power > row.steps) {
				t.Errorf("%s: step %d does nothing, or more is done than there are steps", row.why, power)
			}
			last = next
		}
	}
	for power := int64(-2); power < 5; power++ {
		next, code := checkAct(t, storeWith(l, "", 6), withPower(forgeAct("noise"), power), "forged")
		if code != impl.StOk || logIn(next) != "noise" || len(next.Disk.Ops) != 0 {
			t.Errorf("forged with Power %d: code %d", power, code)
		}
	}
}

func TestNewLogs(t *testing.T) {
	for _, s := range []impl.Store{{}, {Disk: diskWith(filesOf("a", "one", "log.new", "left"))}, {Disk: diskWith(filesOf("log", "old"), removeOf("log"))}} {
		next := must(t, s, newAct())
		if data, ok := fileOf(t, next.Disk, "log"); !ok || data != "" || len(next.Disk.Ops) != 0 || next.Count != 0 {
			t.Errorf("%+v", next)
		}
		checkView(t, next, "a new log")
	}
	for _, s := range []impl.Store{{Count: 1}, {Count: 400}, storeWith(nil, "", 0), storeWith(nil, "noise", 0), storeWith(sixOps(), "", 6), {Disk: diskWith(nil, appendOf("log", ""))}} {
		next, code := checkAct(t, s, newAct(), "not new")
		checkCode(t, code, impl.StForm, "not new")
		if !sameStore(next, s) {
			t.Errorf("the store is another: %+v", next)
		}
	}
}

func TestOpeningStores(t *testing.T) {
	l := sixOps()
	rows := []struct {
		s     impl.Store
		code  int64
		boxes int
	}{
		{storeWith(l, "", 6), impl.StOk, 6}, {storeWith(l, "", 5), impl.StOk, 6}, {storeWith(l, "torn", 6), impl.StOk, 6}, {storeWith(l, "torn", 5), impl.StOk, 6},
		{storeWith(l, "torn", 5, "log.new", "left", "m", "other"), impl.StOk, 6}, {storeWith(nil, "torn", 0), impl.StOk, 0}, {storeWith(nil, "", 0), impl.StOk, 0},
		{storeWith(l, "", 4), impl.StAhead, 0}, {storeWith(l, "torn", 4), impl.StAhead, 0}, {storeWith(l, "", 7), impl.StBack, 0}, {storeWith(l, "torn", 7), impl.StBack, 0},
		{storeWith(append(l, dropOf("x")), "torn", 7), impl.StNot, 0}, {impl.Store{}, impl.StNone, 0}, {impl.Store{Count: 6}, impl.StNone, 0},
	}
	for i, row := range rows {
		next, code := checkAct(t, row.s, openAct(), fmt.Sprintf("row %d", i))
		checkCode(t, code, row.code, fmt.Sprintf("row %d", i))
		if code != impl.StOk && !sameStore(next, row.s) {
			t.Errorf("row %d: the store is another", i)
		}
		if code == impl.StOk && (logIn(next) != knownLog(logKey, l[:row.boxes]) || next.Count != int64(row.boxes)) {
			t.Errorf("row %d: %d bytes, Count %d", i, len(logIn(next)), next.Count)
		}
		if again, c := checkAct(t, next, withPower(openAct(), 0), "once more"); code == impl.StOk && (c != impl.StOk || !sameStore(again, next)) {
			t.Errorf("row %d: once more something is done", i)
		}
	}
}

func TestOperationsOnStores(t *testing.T) {
	l := sixOps()
	notDone := []impl.Op{addOf("u"), dropOf("v"), markOf(impl.OpRead, "u", "2"), fetchOf(feedWith("x", "T", "1", "x", 1))}
	for _, o := range notDone {
		_, code := checkAct(t, storeWith(l, "", 6), opAct(o), "not done")
		checkCode(t, code, impl.StNot, "not done")
		_, code = checkAct(t, storeWith(l, "torn", 6), opAct(o), "torn, and not done")
		checkCode(t, code, impl.StTorn, "torn, and not done")
	}
	for _, o := range append(nineOps()[1:], addOf("w"), fetchOf(longestFeed())) {
		next, code := checkAct(t, storeWith(l, "", 6), opAct(o), knownOpText(o))
		if code == impl.StOk && (logIn(next) != knownLog(logKey, append(l, o)) || next.Count != 7 || len(next.Disk.Ops) != 0) {
			t.Errorf("%s: %d bytes, Count %d", knownOpText(o), len(logIn(next)), next.Count)
		}
		for count := int64(3); count < 9; count++ {
			checkAct(t, storeWith(l, "", count), opAct(o), fmt.Sprintf("Count %d", count))
		}
	}
	_, code := checkAct(t, storeWith(l, "", 5), opAct(addOf("w")), "a box that is not counted")
	checkCode(t, code, impl.StTorn, "a box that is not counted")
}

// What is told first: how the log is opened, then the operation's form, then what is torn, then what can not be done.
func TestOperationsThatAreNotRightOnStores(t *testing.T) {
	l := sixOps()
	rows := []struct {
		s    impl.Store
		code int64
	}{
		{impl.Store{}, impl.StNone}, {storeWith(l, "", 7), impl.StBack}, {storeWith(l, "", 4), impl.StAhead}, {storeWith([]impl.Op{dropOf("u")}, "", 1), impl.StNot},
		{storeWith(l, "", 6), impl.StForm}, {storeWith(l, "torn", 6), impl.StForm}, {storeWith(l, "", 5), impl.StForm}, {storeWith(nil, "", 0), impl.StForm},
	}
	for why, o := range wrongOps() {
		for _, row := range rows {
			for _, power := range []int64{-1, 0} {
				next, code := storeDo(t, logKey, row.s, withPower(opAct(o), power))
				checkCode(t, code, row.code, why)
				if !sameStore(next, row.s) {
					t.Errorf("%s: the store is another", why)
				}
			}
		}
	}
}

func TestStoresWithManyBoxes(t *testing.T) {
	boxes := knownBoxes(logKey, textsOf(flips(502)))
	rows := []struct {
		boxes              int
		count, open, doing int64
	}{
		{398, 398, impl.StOk, impl.StOk}, {399, 399, impl.StOk, impl.StOk}, {400, 399, impl.StOk, impl.StTorn}, {400, 400, impl.StOk, impl.StFull}, {399, 400, impl.StBack, impl.StBack},
		{401, 400, impl.StOk, impl.StTorn}, {402, 400, impl.StAhead, impl.StAhead}, {401, 399, impl.StAhead, impl.StAhead}, {500, 400, impl.StAhead, impl.StAhead}, {501, 400, impl.StNot, impl.StNot},
	}
	for _, row := range rows {
		s := impl.Store{Disk: diskWith(filesOf("log", strings.Join(boxes[:row.boxes], ""))), Count: row.count}
		why := fmt.Sprintf("%d boxes, Count %d", row.boxes, row.count)
		next, code := checkAct(t, s, openAct(), why)
		checkCode(t, code, row.open, why)
		if code == impl.StOk && next.Count != int64(row.boxes) {
			t.Errorf("%s: Count %d", why, next.Count)
		}
		for _, power := range []int64{-1, 0} {
			want := row.doing
			if power == 0 && want == impl.StOk {
				want = impl.StPower
			}
			_, code = checkAct(t, s, withPower(opAct(flips(2)[row.boxes%2]), power), why)
			checkCode(t, code, want, why)
		}
	}
	full := impl.Store{Disk: diskWith(filesOf("log", strings.Join(boxes[:400], ""))), Count: 400}
	_, code := checkAct(t, full, opAct(dropOf("u")), "it can not be done, and there are 400")
	checkCode(t, code, impl.StNot, "it can not be done, and there are 400")
}

// A step that is refused leaves nothing of those ahead of it; one that is not made for want of power is not refused.
func TestStepsThatAreRefused(t *testing.T) {
	l := sixOps()
	log := knownLog(logKey, l)
	filled := func(torn string, bytes int) impl.Store {
		s := storeWith(l, torn, 6)
		return storeWith(l, torn, 6, "a", zeros(bytes-len(logIn(s))))
	}
	many := storeWith(l, "torn", 6)
	for i := range 59 {
		many = on(many, appendOf(fmt.Sprintf("f%02d", i), ""))
	}
	many.Disk = knownSync(many.Disk)
	rows := []struct {
		why  string
		s    impl.Store
		a    impl.Act
		code int64
	}{
		{"200000 bytes with the box", filled("", 200000-94), opAct(addOf("w")), impl.StOk},
		{"200001 bytes with the box", filled("", 200001-94), opAct(addOf("w")), impl.StFull},
		{"200000 bytes with log.new", filled("torn", 200000-len(log)), openAct(), impl.StOk},
		{"200001 bytes with log.new", filled("torn", 200001-len(log)), openAct(), impl.StFull},
		{"200001 bytes, a crash", filled("torn", 200001-len(log)), crashAct(nil, 0), impl.StFull},
		{"61 files with log.new", many, openAct(), impl.StFull},
		{"61 files with a new log", impl.Store{Disk: diskWith(manyFiles(60, 0))}, newAct(), impl.StFull},
		{"60 files with a new log", impl.Store{Disk: diskWith(manyFiles(59, 0))}, newAct(), impl.StOk},
		{"61 files, forged", impl.Store{Disk: diskWith(manyFiles(60, 0))}, forgeAct(""), impl.StFull},
		{"60 files, forged", many, forgeAct("noise"), impl.StOk},
		{"200000 bytes, forged", storeWith(l, "", 6), forgeAct(zeros(200000)), impl.StOk},
		{"200001 bytes, forged", storeWith(l, "", 6), forgeAct(zeros(200001)), impl.StFull},
		{"200001 bytes in all, forged", storeWith(l, "", 6, "a", "x"), forgeAct(zeros(200000)), impl.StFull},
	}
	for _, row := range rows {
		next, code := checkAct(t, row.s, row.a, row.why)
		checkCode(t, code, row.code, row.why)
		if code == impl.StFull && !sameStore(next, row.s) {
			t.Errorf("%s: the store is another", row.why)
		}
		if next, code := checkAct(t, row.s, withPower(row.a, 0), row.why); row.a.Kind != impl.AcForge && (code != impl.StPower || !sameStore(next, row.s)) {
			t.Errorf("%s, without power: code %d", row.why, code)
		}
		for power := int64(1); power < 7; power++ {
			checkAct(t, row.s, withPower(row.a, power), row.why)
		}
	}
}

func TestCrashesOfStores(t *testing.T) {
	l := sixOps()
	boxes := knownBoxes(logKey, textsOf(append(l, addOf("w"), addOf("x"))))
	s := on(on(storeWith(l, "", 6), appendOf("log", boxes[6])), appendOf("b", "data"))
	for _, a := range []impl.Act{crashAct([]int64{0}, -1), crashAct([]int64{2}, 0), crashAct([]int64{-1}, 0), crashAct([]int64{1, 0}, 0), crashAct([]int64{0, 0}, 0)} {
		for _, power := range []int64{-1, 0, 3} {
			next, code := checkAct(t, s, withPower(a, power), "refused")
			checkCode(t, code, impl.StForm, "a crash that is refused")
			if !sameStore(next, s) {
				t.Error("a crash that is refused leaves something")
			}
		}
	}
	rows := []struct {
		why   string
		s     impl.Store
		a     impl.Act
		code  int64
		count int64
	}{
		{"nothing is kept", s, crashAct(nil, 0), impl.StOk, 6},
		{"the box is kept", s, crashAct([]int64{0}, 999), impl.StOk, 7},
		{"the box is kept, behind it more", s, crashAct([]int64{0, 1}, 0), impl.StOk, 7},
		{"the box is torn", s, crashAct([]int64{0}, 93), impl.StOk, 6},
		{"the other file is kept", s, crashAct([]int64{1}, 2), impl.StOk, 6},
		{"counted ahead of its sync", impl.Store{Disk: s.Disk, Count: 7}, crashAct(nil, 0), impl.StBack, 7},
		{"counted ahead, and torn", impl.Store{Disk: s.Disk, Count: 7}, crashAct([]int64{0}, 93), impl.StBack, 7},
		{"counted ahead, and kept", impl.Store{Disk: s.Disk, Count: 7}, crashAct([]int64{0}, 94), impl.StOk, 7},
		{"two boxes ahead", impl.Store{Disk: s.Disk, Count: 5}, crashAct([]int64{0}, 94), impl.StAhead, 5},
		{"a log that was not synced", impl.Store{Disk: diskWith(nil, appendOf("log", ""), appendOf("a", "x"))}, crashAct([]int64{1}, 9), impl.StNone, 0},
		{"a log that comes back", impl.Store{Disk: diskWith(filesOf("log", knownLog(logKey, l)), removeOf("log")), Count: 6}, crashAct(nil, 0), impl.StOk, 6},
		{"a log that can not be folded", impl.Store{Disk: diskWith(filesOf("log", knownLog(logKey, []impl.Op{dropOf("u")})), removeOf("log"), appendOf("log", ""))}, crashAct(nil, 0), impl.StNot, 0},
	}
	for _, row := range rows {
		next, code := checkAct(t, row.s, row.a, row.why)
		checkCode(t, code, row.code, row.why)
		left, _ := knownCrash(row.s.Disk, row.a.Keep, row.a.Torn)
		if next.Count != row.count || code != impl.StOk && !sameDisk(next.Disk, left) {
			t.Errorf("%s: Count %d, or a disk that is not as it was behind the crash", row.why, next.Count)
		}
	}
}

// checkSafe opens what a loss of power left, as often as power is lost again, and asks whether it is one of two readers.
func checkSafe(t *testing.T, s impl.Store, keep []int64, torn int64, wants []impl.Reader, again int) {
	t.Helper()
	for power := int64(-1); power < 7; power++ {
		next, code := storeDo(t, logKey, s, withPower(crashAct(keep, torn), power))
		switch {
		case code == impl.StPower && again > 0:
			for _, more := range choices(len(next.Disk.Ops)) {
				for _, at := range []int64{0, 50, 9999} {
					checkSafe(t, next, more, at, wants, again-1)
				}
			}
		case code == impl.StOk:
			checkOneOf(t, next, wants, fmt.Sprintf("keep %d, torn %d, Power %d", keep, torn, power))
		case code != impl.StPower:
			t.Fatalf("keep %d, torn %d, Power %d: code %d", keep, torn, power, code)
		}
		if again == 0 || code == impl.StOk && power >= 0 {
			return
		}
	}
}

// checkOneOf asks, too, whether the store can be worked with.
func checkOneOf(t *testing.T, s impl.Store, wants []impl.Reader, why string) {
	t.Helper()
	r, code := storeView(t, logKey, s)
	if code != impl.StOk || !slices.ContainsFunc(wants, func(want impl.Reader) bool { return sameReader(r, want) }) {
		t.Errorf("%s: code %d with %+v", why, code, r)
	}
	l, end := impl.ReadLog(logKey, logIn(s))
	if int64(len(l)) != s.Count || end != int64(len(logIn(s))) || len(s.Disk.Ops) != 0 {
		t.Errorf("%s: %d boxes, Count %d, %d ops", why, len(l), s.Count, len(s.Disk.Ops))
	}
	if _, code := storeDo(t, logKey, s, opAct(purgeOf(0))); code != impl.StOk {
		t.Errorf("%s: then code %d", why, code)
	}
}

// Behind any loss of power there is what was there, or what was to be made.
func TestPowerLostInAnOperation(t *testing.T) {
	before := []impl.Store{storeWith(nil, "", 0), storeWith(sixOps()[:1], "", 1, "b", "other"), storeWith(sixOps()[:2], "", 2, "log.new", "left by another")}
	for _, s := range before {
		old, _ := knownView(s)
		for _, o := range []impl.Op{addOf("w"), fetchOf(feedWith("u", "T2", "2", "y", 3))} {
			fresh, can := knownDone(old, o)
			if !can {
				continue
			}
			for power := range int64(4) {
				next, code := checkAct(t, s, withPower(opAct(o), power), "power is lost")
				wants := []impl.Reader{old, fresh}
				if code == impl.StOk {
					wants = wants[1:]
				}
				checkLosses(t, next, wants)
			}
		}
	}
}

// checkLosses tears at each byte, and at some of them lets power be lost once more.
func checkLosses(t *testing.T, s impl.Store, wants []impl.Reader) {
	t.Helper()
	longest := 0
	for _, op := range s.Disk.Ops {
		longest = max(longest, len(op.Data))
	}
	for _, keep := range choices(len(s.Disk.Ops)) {
		for torn := range longest + 2 {
			checkSafe(t, s, keep, int64(torn), wants, 0)
		}
		for _, torn := range []int{0, 1, longest / 2, longest - 1, longest} {
			checkSafe(t, s, keep, int64(max(0, torn)), wants, 1)
		}
	}
}

func TestPowerLostInANewStore(t *testing.T) {
	for power := range int64(3) {
		s, _ := checkAct(t, impl.Store{}, withPower(newAct(), power), "a new log")
		for _, keep := range choices(len(s.Disk.Ops)) {
			next, code := checkAct(t, s, crashAct(keep, 0), "a new log is lost")
			if code == impl.StNone && power < 2 {
				next = must(t, next, newAct())
			} else if code != impl.StOk {
				t.Errorf("Power %d, keep %d: code %d", power, keep, code)
			}
			checkOneOf(t, next, []impl.Reader{{}}, "a new log")
		}
	}
}

func TestPowerLostInMending(t *testing.T) {
	l := sixOps()[:2]
	want, _ := knownFolded(l)
	for _, torn := range []string{"t", knownBoxes(logKey, textsOf(append(slices.Clone(l), addOf("w"))))[2][:93]} {
		for _, count := range []int64{1, 2} {
			for _, left := range [][]string{nil, {"log.new", "left"}} {
				s := storeWith(l, torn, count, left...)
				for power := range int64(7) {
					next, _ := checkAct(t, s, withPower(openAct(), power), "a torn log")
					for _, keep := range choices(len(next.Disk.Ops)) {
						for _, at := range []int64{0, 94, 99999} {
							checkSafe(t, next, keep, at, []impl.Reader{want}, 1)
						}
					}
				}
			}
		}
	}
}

func TestPowerLostAtEachByteOfMending(t *testing.T) {
	l := sixOps()[:1]
	want, _ := knownFolded(l)
	for count := range int64(2) {
		for power := range int64(7) {
			next, _ := checkAct(t, storeWith(l, "t", count, "log.new", "left"), withPower(openAct(), power), "a torn log")
			checkLosses(t, next, []impl.Reader{want})
		}
	}
}

// One operation behind the other, each with power lost on its way: nothing that was done is ever gone.
func TestPowerLostAgainAndAgain(t *testing.T) {
	r := fixedRandom()
	for range 6 {
		s := must(t, impl.Store{}, newAct())
		now := impl.Reader{}
		for range 40 {
			o := randomOp(r)
			fresh, can := knownDone(now, o)
			next, code := checkAct(t, s, withPower(opAct(o), r.Int63n(5)-1), "one more")
			if can == (code == impl.StNot) {
				t.Fatalf("%s: code %d", knownOpText(o), code)
			}
			wants := []impl.Reader{now, fresh}
			if !can {
				wants = wants[:1]
			} else if code == impl.StOk {
				wants = wants[1:]
			}
			for code = impl.StPower; code == impl.StPower; {
				keep := slices.DeleteFunc(allKept(next.Disk), func(int64) bool { return r.Intn(3) == 0 })
				next, code = checkAct(t, next, withPower(crashAct(keep, r.Int63n(120)), r.Int63n(7)-1), "power is lost")
			}
			checkOneOf(t, next, wants, knownOpText(o))
			s = next
			now, _ = storeView(t, logKey, s)
		}
	}
}

// A stranger has what was there once, and writes it anew, with or without more behind it.
func TestStrangersWithAnOlderLog(t *testing.T) {
	s := must(t, impl.Store{}, newAct())
	var older []string
	for _, o := range sixOps() {
		older = append(older, logIn(s))
		s = must(t, s, opAct(o))
	}
	for _, old := range older {
		for _, more := range []string{"", "x", "noise", zeros(94), logIn(s)[len(old) : len(logIn(s))-1]} {
			for _, power := range []int64{-1, 0, 1, 2} {
				h := must(t, s, withPower(forgeAct(old+more), power))
				if logIn(h) != old+more || len(h.Disk.Ops) != 0 || h.Count != 6 {
					t.Fatalf("forged: %d bytes, %d ops", len(logIn(h)), len(h.Disk.Ops))
				}
				checkNotOpened(t, h, impl.StBack, "an older log")
			}
		}
	}
	ahead := knownLog(logKey, append(sixOps(), addOf("w"), addOf("x")))
	checkNotOpened(t, must(t, s, forgeAct(ahead)), impl.StAhead, "a log that is two boxes ahead")
	checkNotOpened(t, must(t, s, forgeAct("")), impl.StBack, "an empty log")
	checkNotOpened(t, must(t, s, forgeAct(knownLog(zeros(32), sixOps()))), impl.StBack, "a log of another key")
	checkOneOf(t, must(t, s, forgeAct(logIn(s))), []impl.Reader{viewed(t, s)}, "the same log")
	checkOneOf(t, must(t, must(t, s, forgeAct(logIn(s)+"noise")), openAct()), []impl.Reader{viewed(t, s)}, "the same log, and noise")
}

func viewed(t *testing.T, s impl.Store) impl.Reader {
	t.Helper()
	r, code := storeView(t, logKey, s)
	checkCode(t, code, impl.StOk, "a store that is right")
	return r
}

func checkNotOpened(t *testing.T, s impl.Store, want int64, why string) {
	t.Helper()
	r, code := storeView(t, logKey, s)
	checkCode(t, code, want, why)
	if len(r.Subs) != 0 {
		t.Errorf("%s: a reader: %+v", why, r)
	}
	for _, a := range []impl.Act{openAct(), opAct(addOf("w")), opAct(impl.Op{}), crashAct(nil, 0), withPower(openAct(), 0), withPower(crashAct(nil, 0), 0)} {
		next, code := checkAct(t, s, a, why)
		checkCode(t, code, want, why)
		if !sameStore(next, s) {
			t.Errorf("%s: Kind %d leaves another store", why, a.Kind)
		}
	}
}

// What a stranger writes is there whatever else was not synced yet.
func TestStrangersAndWhatIsNotSynced(t *testing.T) {
	for why, s := range someStores() {
		for _, data := range []string{"", "noise", knownLog(logKey, sixOps()[:3])} {
			next, code := checkAct(t, s, forgeAct(data), why)
			if code == impl.StOk && (logIn(next) != data || len(next.Disk.Ops) != 0 || next.Count != s.Count) {
				t.Errorf("%s: forged: %d bytes, %d ops", why, len(logIn(next)), len(next.Disk.Ops))
			}
		}
	}
}

func checkStorePlayed(t *testing.T, s impl.Store, l []impl.Act, why string) impl.Store {
	t.Helper()
	want := s
	var wants []int64
	for _, a := range l {
		next, code := knownAct(want, a)
		want, wants = next, append(wants, code)
	}
	got, codes := storePlay(t, logKey, s, l)
	if !sameStore(got, want) || !slices.Equal(codes, wants) {
		t.Errorf("%s: Count %d and codes %d, want %d and %d", why, got.Count, codes, want.Count, wants)
	}
	return got
}

func TestPlaysOfActs(t *testing.T) {
	for why, s := range someStores() {
		checkStorePlayed(t, s, nil, why)
		checkStorePlayed(t, s, someActs(), why)
		checkStorePlayed(t, s, []impl.Act{openAct(), opAct(addOf("w")), withPower(opAct(addOf("x")), 1), {Kind: 9}, crashAct([]int64{0}, 40), opAct(addOf("x"))}, why)
	}
	long := slices.Concat([]impl.Act{newAct()}, slices.Repeat([]impl.Act{opAct(addOf("u")), opAct(dropOf("u"))}, 30))
	if s := checkStorePlayed(t, impl.Store{}, long, "many acts"); s.Count != 60 {
		t.Errorf("Count %d", s.Count)
	}
}

// A box that is counted beyond 400 leaves a store that is not right, and of a play that goes on with it nothing is left.
func TestPlaysBeyondTheCounter(t *testing.T) {
	boxes := knownBoxes(logKey, textsOf(flips(401)))
	s := impl.Store{Disk: diskWith(filesOf("log", strings.Join(boxes, ""))), Count: 400}
	next, codes := storePlay(t, logKey, s, []impl.Act{openAct()})
	if next.Count != 401 || !slices.Equal(codes, []int64{impl.StOk}) {
		t.Errorf("Count %d, codes %d", next.Count, codes)
	}
	if next, codes := storePlay(t, logKey, s, []impl.Act{openAct(), openAct()}); !noStore(next) || len(codes) != 0 {
		t.Errorf("Count %d, codes %d", next.Count, codes)
	}
}

func randomAct(r *rand.Rand, s impl.Store, logs []string) impl.Act {
	power := r.Int63n(9) - 2
	switch r.Intn(12) {
	case 0:
		return withPower(newAct(), power)
	case 1, 2:
		return withPower(openAct(), power)
	case 3, 4:
		keep := slices.DeleteFunc(allKept(s.Disk), func(int64) bool { return r.Intn(3) == 0 })
		return withPower(crashAct(keep, r.Int63n(110)-1), power)
	case 5:
		return withPower(forgeAct(logs[r.Intn(len(logs))]+strings.Repeat("n", r.Intn(2))), power)
	case 6:
		return impl.Act{Kind: r.Int63n(8), Op: randomOp(r), Power: power, Keep: []int64{r.Int63n(3)}, Torn: r.Int63n(9), Data: "noise"}
	}
	return withPower(opAct(randomOp(r)), max(-1, power))
}

func TestManyActs(t *testing.T) {
	r := fixedRandom()
	for range 30 {
		s, first := impl.Store{}, impl.Store{}
		logs := []string{""}
		var l []impl.Act
		for range 40 {
			a := randomAct(r, s, logs)
			s, _ = checkAct(t, s, a, "one more")
			checkView(t, s, "one more")
			l, logs = append(l, a), append(logs, logIn(s))
		}
		checkStorePlayed(t, first, l, "all of them")
	}
}

func TestStoresAtTheSameTime(t *testing.T) {
	s := storeWith(sixOps(), "torn", 5, "log.new", "left")
	want, _ := knownAct(s, openAct())
	var group sync.WaitGroup
	for range 8 {
		group.Go(func() {
			for range 20 {
				if got, code := impl.StoreDo(logKey, s, openAct()); code != impl.StOk || !sameStore(got, want) {
					t.Error("the same arguments have another answer")
				}
			}
		})
	}
	group.Wait()
}
