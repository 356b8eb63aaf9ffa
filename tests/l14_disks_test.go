package tests

import (
	"fmt"
	"maps"
	"math"
	"math/rand"
	"slices"
	"strings"
	"sync"
	"testing"

	"loop.example/g00569/impl"
)

// knownFiles has files by their names, so that no order of theirs can go wrong.
type knownFiles map[string]string

func knownFilesOf(l []impl.File) knownFiles {
	out := knownFiles{}
	for _, f := range l {
		out[f.Name] = f.Data
	}
	return out
}

func (k knownFiles) list() []impl.File {
	var out []impl.File
	for _, name := range slices.Sorted(maps.Keys(k)) {
		out = append(out, impl.File{Name: name, Data: k[name]})
	}
	return out
}

func (k knownFiles) fit() bool {
	left := 200000
	for _, data := range k {
		left -= len(data)
	}
	return len(k) <= 60 && left >= 0
}

// change answers false where there is no file to be renamed or removed.
func (k knownFiles) change(op impl.DOp) bool {
	data, there := k[op.Name]
	if op.Kind == impl.DkAppend {
		k[op.Name] = data + op.Data
		return true
	}
	delete(k, op.Name)
	if there && op.Kind == impl.DkRename {
		k[op.To] = data
	}
	return there
}

func isKnownName(s string) bool {
	return s != "" && len(s) < 101
}

func knownForm(op impl.DOp) bool {
	switch op.Kind {
	case impl.DkAppend, impl.DkRemove:
		return isKnownName(op.Name) && op.To == "" && (op.Kind == impl.DkAppend || op.Data == "")
	case impl.DkRename:
		return isKnownName(op.Name) && isKnownName(op.To) && op.Data == ""
	}
	return false
}

func knownFilesOk(l []impl.File) bool {
	k := knownFilesOf(l)
	for name := range k {
		if !isKnownName(name) {
			return false
		}
	}
	return slices.Equal(l, k.list()) && k.fit()
}

func knownDiskOk(d impl.Disk) bool {
	if !knownFilesOk(d.Live) || !knownFilesOk(d.Safe) || len(d.Ops) > 200 {
		return false
	}
	k := knownFilesOf(d.Safe)
	for _, op := range d.Ops {
		if !knownForm(op) || !k.change(op) || !k.fit() {
			return false
		}
	}
	return slices.Equal(d.Live, k.list())
}

func knownDo(d impl.Disk, op impl.DOp) (impl.Disk, int64) {
	if !knownDiskOk(d) {
		return impl.Disk{}, impl.DkDisk
	}
	k := knownFilesOf(d.Live)
	switch {
	case !knownForm(op):
		return d, impl.DkForm
	case !k.change(op):
		return d, impl.DkNone
	case len(d.Ops) == 200 || !k.fit():
		return d, impl.DkFull
	}
	return impl.Disk{Live: k.list(), Safe: d.Safe, Ops: slices.Concat(d.Ops, []impl.DOp{op})}, impl.DkOk
}

func knownSync(d impl.Disk) impl.Disk {
	if !knownDiskOk(d) {
		return impl.Disk{}
	}
	return impl.Disk{Live: d.Live, Safe: d.Live}
}

func knownCrash(d impl.Disk, keep []int64, torn int64) (impl.Disk, bool) {
	if !knownDiskOk(d) || torn < 0 {
		return impl.Disk{}, false
	}
	k := knownFilesOf(d.Safe)
	for i, place := range keep {
		if place < 0 || place >= int64(len(d.Ops)) || i > 0 && place <= keep[i-1] {
			return impl.Disk{}, false
		}
		op := d.Ops[place]
		if i == len(keep)-1 && int64(len(op.Data)) > torn {
			op.Data = op.Data[:torn]
		}
		k.change(op)
	}
	if !k.fit() {
		return impl.Disk{}, false
	}
	return impl.Disk{Live: k.list(), Safe: k.list()}, true
}

func knownReplace(d impl.Disk, name string, data string) (impl.Disk, int64) {
	ops := []impl.DOp{appendOf(name+".new", data), renameOf(name+".new", name)}
	if _, there := knownFilesOf(d.Live)[name+".new"]; there {
		ops = slices.Concat([]impl.DOp{removeOf(name + ".new")}, ops)
	}
	now := d
	for _, op := range ops {
		next, code := knownDo(now, op)
		if code == impl.DkDisk {
			return impl.Disk{}, code
		}
		if code != impl.DkOk {
			return d, code
		}
		now = next
	}
	return now, impl.DkOk
}

func appendOf(name string, data string) impl.DOp {
	return impl.DOp{Kind: impl.DkAppend, Name: name, Data: data}
}

func renameOf(name string, to string) impl.DOp {
	return impl.DOp{Kind: impl.DkRename, Name: name, To: to}
}

func removeOf(name string) impl.DOp {
	return impl.DOp{Kind: impl.DkRemove, Name: name}
}

// diskWith has the files that are safe, and those that the ops make of them.
func diskWith(safe []impl.File, ops ...impl.DOp) impl.Disk {
	k := knownFilesOf(safe)
	for _, op := range ops {
		k.change(op)
	}
	return impl.Disk{Live: k.list(), Safe: safe, Ops: ops}
}

func filesOf(rows ...string) []impl.File {
	var l []impl.File
	for i := 0; i < len(rows); i += 2 {
		l = append(l, impl.File{Name: rows[i], Data: rows[i+1]})
	}
	return l
}

// manyFiles has so many files with so many bytes in all.
func manyFiles(count int, bytes int) []impl.File {
	var l []impl.File
	for i := range count {
		l = append(l, impl.File{Name: fmt.Sprintf("f%02d", i), Data: strings.Repeat("d", bytes/count)})
	}
	l[0].Data += strings.Repeat("e", bytes%count)
	return l
}

func manyAppends(count int) []impl.DOp {
	return slices.Repeat([]impl.DOp{appendOf("a", "x")}, count)
}

// someDisks are right, at all their limits and far from them.
func someDisks() map[string]impl.Disk {
	ab := filesOf("a", "one", "b", "")
	return map[string]impl.Disk{
		"the zero value":     {},
		"two files":          diskWith(ab),
		"two files, empty":   diskWith(filesOf("a", "", "b", "")),
		"not synced":         diskWith(nil, appendOf("a", "x"), appendOf("b", "")),
		"all ops":            diskWith(filesOf("a", "one", "b", "two", "c", "three"), appendOf("a", "more"), renameOf("b", "c"), removeOf("a"), appendOf("b", "again"), renameOf("b", "b")),
		"198 ops":            diskWith(ab, manyAppends(198)...),
		"199 ops":            diskWith(ab, manyAppends(199)...),
		"200 ops":            diskWith(ab, manyAppends(200)...),
		"59 files":           diskWith(manyFiles(59, 59)),
		"60 files":           diskWith(manyFiles(60, 60)),
		"60 files, by an op": diskWith(manyFiles(59, 59), appendOf("a", "x")),
		"60 files, safe":     diskWith(manyFiles(60, 60), removeOf("f07")),
		"199999 bytes":       diskWith(filesOf("a", zeros(199999))),
		"200000 bytes":       diskWith(filesOf("a", zeros(100000), "b", zeros(100000))),
		"200000, by an op":   diskWith(filesOf("a", zeros(100000)), appendOf("b", zeros(100000))),
		"60 files, 200000":   diskWith(manyFiles(60, 200000)),
		"long names":         diskWith(filesOf(strings.Repeat("l", 99), "1", strings.Repeat("l", 100), "2")),
		"any bytes":          diskWith(filesOf("\x00", "\xff", " ", "\n", "\xff", "\x00")),
		"order by bytes":     diskWith(filesOf("A", "", "a", "", "a.new", "n", "aa", "")),
		"full, all at once":  diskWith(manyFiles(60, 199800), slices.Repeat([]impl.DOp{appendOf("f00", "x")}, 200)...),
	}
}

// wrongDisks are each wrong in one way, with that way as their key.
func wrongDisks() map[string]impl.Disk {
	ab := filesOf("a", "one", "b", "")
	out := map[string]impl.Disk{
		"Live without an op":       {Live: ab},
		"Safe without Live":        {Safe: ab},
		"an op too much":           {Live: ab, Safe: ab, Ops: manyAppends(1)},
		"an op that is left out":   {Live: filesOf("a", "onexx", "b", ""), Safe: ab, Ops: manyAppends(1)},
		"data of another order":    {Live: filesOf("a", "onecd"), Safe: filesOf("a", "one"), Ops: []impl.DOp{appendOf("a", "d"), appendOf("a", "c")}},
		"another file":             {Live: filesOf("c", "x"), Ops: manyAppends(1)},
		"a file more":              {Live: filesOf("a", "x", "b", ""), Ops: manyAppends(1)},
		"a file less":              {Live: filesOf("a", "x"), Ops: []impl.DOp{appendOf("a", "x"), appendOf("b", "")}},
		"201 ops":                  diskWith(ab, manyAppends(201)...),
		"201 ops that do nothing":  diskWith(ab, slices.Repeat([]impl.DOp{renameOf("a", "a")}, 201)...),
		"61 files in between":      diskWith(manyFiles(60, 60), appendOf("a", ""), removeOf("a")),
		"200001 bytes in between":  diskWith(filesOf("b", zeros(200000)), appendOf("a", "x"), removeOf("a")),
		"a rename of none":         diskWith(ab, renameOf("c", "d")),
		"a remove of none":         diskWith(ab, removeOf("c")),
		"a remove twice":           diskWith(ab, removeOf("a"), removeOf("a")),
		"a rename of what is gone": diskWith(ab, renameOf("a", "c"), renameOf("a", "d")),
		"a remove ahead":           diskWith(ab, removeOf("c"), appendOf("c", "")),
	}
	for _, op := range wrongForms() {
		out[fmt.Sprintf("an op that is not of its form: %.60v", op)] = diskWith(ab, op)
		out[fmt.Sprintf("one behind another: %.60v", op)] = diskWith(ab, append(manyAppends(3), op)...)
	}
	for why, l := range wrongFiles() {
		out[why] = impl.Disk{Live: l, Safe: l}
		out[why+", of Live"] = impl.Disk{Live: l, Safe: ab}
		out[why+", of Safe"] = impl.Disk{Live: ab, Safe: l}
		out[why+", with ops"] = impl.Disk{Live: filesOf("a", "x"), Safe: l, Ops: manyAppends(1)}
		var gone []impl.DOp
		for name := range knownFilesOf(l) {
			gone = append(gone, removeOf(name))
		}
		out[why+", all removed"] = impl.Disk{Safe: l, Ops: gone}
	}
	return out
}

func wrongFiles() map[string][]impl.File {
	return map[string][]impl.File{
		"an empty name":         filesOf("", "x"),
		"a name of 101 bytes":   filesOf("a", "one", strings.Repeat("n", 101), ""),
		"names that fall":       filesOf("b", "", "a", "one"),
		"names that are alike":  filesOf("a", "one", "a", "one"),
		"alike at the end":      filesOf("a", "one", "b", "", "b", ""),
		"61 files":              manyFiles(61, 61),
		"61 empty files":        manyFiles(61, 0),
		"200001 bytes":          filesOf("a", zeros(200001)),
		"200001 bytes together": manyFiles(60, 200001),
	}
}

// wrongForms are of each Kind, each with one fault.
func wrongForms() []impl.DOp {
	long := strings.Repeat("n", 101)
	out := []impl.DOp{
		{}, {Name: "a"}, {Kind: impl.DkAppend}, {Kind: impl.DkRename}, {Kind: impl.DkRemove},
		appendOf("", "x"), appendOf(long, "x"), {Kind: impl.DkAppend, Name: "a", To: "b"}, {Kind: impl.DkAppend, Name: "a", To: "a", Data: "x"},
		renameOf("", "b"), renameOf("a", ""), renameOf(long, "b"), renameOf("a", long), {Kind: impl.DkRename, Name: "a", To: "b", Data: "x"},
		removeOf(""), removeOf(long), {Kind: impl.DkRemove, Name: "a", To: "b"}, {Kind: impl.DkRemove, Name: "a", Data: "x"},
	}
	for _, kind := range []int64{0, 4, -1, 5, 256 + 1, 1<<32 + 1, math.MinInt64, math.MaxInt64} {
		out = append(out, impl.DOp{Kind: kind, Name: "a"}, impl.DOp{Kind: kind, Name: "a", Data: "x"}, impl.DOp{Kind: kind, Name: "a", To: "b"})
	}
	return out
}

func TestDisksThatAreRight(t *testing.T) {
	for why, d := range someDisks() {
		if !diskOk(t, d) || !knownDiskOk(d) {
			t.Errorf("%s: DiskOk is false", why)
		}
	}
	empty := impl.Disk{Live: []impl.File{}, Safe: []impl.File{}, Ops: []impl.DOp{}}
	if !diskOk(t, empty) {
		t.Error("empty lists are not as none")
	}
}

func TestDisksThatAreNotRight(t *testing.T) {
	for why, d := range wrongDisks() {
		if diskOk(t, d) || knownDiskOk(d) {
			t.Errorf("%s: DiskOk is true", why)
		}
		for _, op := range []impl.DOp{appendOf("a", "x"), {}, removeOf("none")} {
			if next, code := doOn(t, d, op); code != impl.DkDisk || !noDisk(next) {
				t.Errorf("%s: Do tells %d", why, code)
			}
		}
		if !noDisk(synced(t, d)) {
			t.Errorf("%s: Sync leaves something", why)
		}
		if next, ok := crashed(t, d, nil, 0); ok || !noDisk(next) {
			t.Errorf("%s: Crash is done", why)
		}
		if data, ok := fileOf(t, d, "a"); ok || data != "" {
			t.Errorf("%s: a file is read", why)
		}
		for _, name := range []string{"a", "", strings.Repeat("n", 101)} {
			if next, code := replaced(t, d, name, "x"); code != impl.DkDisk || !noDisk(next) {
				t.Errorf("%s: Replace tells %d", why, code)
			}
		}
	}
}

func checkDo(t *testing.T, d impl.Disk, op impl.DOp, why string) {
	t.Helper()
	want, code := knownDo(d, op)
	got, c := doOn(t, d, op)
	if c != code || !sameDisk(got, want) {
		t.Errorf("%s: code %d, want %d, with %d files, %d safe, %d ops", why, c, code, len(got.Live), len(got.Safe), len(got.Ops))
	}
}

// Each Kind with each name, there and not there, right and not: on each disk.
func TestOpsOfEachForm(t *testing.T) {
	long, tooLong := strings.Repeat("l", 100), strings.Repeat("l", 101)
	for why, d := range someDisks() {
		names := []string{"", "a", "b", "c", "f07", long, tooLong}
		for _, kind := range []int64{-1, 0, 1, 2, 3, 4} {
			for _, name := range names {
				for _, to := range names {
					for _, data := range []string{"", "x"} {
						op := impl.DOp{Kind: kind, Name: name, To: to, Data: data}
						checkDo(t, d, op, fmt.Sprintf("%s: %.80v", why, op))
					}
				}
			}
		}
		for _, op := range wrongForms() {
			if got, code := doOn(t, d, op); code != impl.DkForm || !sameDisk(got, d) {
				t.Errorf("%s: %.80v: code %d", why, op, code)
			}
		}
	}
}

func TestNamesOfFiles(t *testing.T) {
	for _, n := range []int{1, 2, 99, 100} {
		name := strings.Repeat("\xff", n)
		d, code := doOn(t, impl.Disk{}, appendOf(name, "x"))
		checkCode(t, code, impl.DkOk, fmt.Sprintf("a name of %d bytes", n))
		_, code = doOn(t, diskWith(filesOf("a", "")), renameOf("a", name))
		checkCode(t, code, impl.DkOk, fmt.Sprintf("renamed to %d bytes", n))
		if data, ok := fileOf(t, d, name); !ok || data != "x" || !diskOk(t, synced(t, d)) {
			t.Errorf("a name of %d bytes: %q, %t", n, data, ok)
		}
	}
	for _, n := range []int{0, 101, 102, 1000} {
		for _, op := range []impl.DOp{appendOf(strings.Repeat("n", n), ""), renameOf("a", strings.Repeat("n", n)), renameOf(strings.Repeat("n", n), "b"), removeOf(strings.Repeat("n", n))} {
			_, code := doOn(t, diskWith(filesOf("a", "")), op)
			checkCode(t, code, impl.DkForm, fmt.Sprintf("a name of %d bytes, Kind %d", n, op.Kind))
		}
	}
}

// What is told first: the form ahead of the file that is not there, that ahead of the room that is not there.
func TestCodesInTheirOrder(t *testing.T) {
	full := diskWith(filesOf("a", "one", "b", ""), manyAppends(200)...)
	rows := []struct {
		d    impl.Disk
		op   impl.DOp
		code int64
	}{
		{impl.Disk{Live: filesOf("a", "")}, impl.DOp{}, impl.DkDisk},
		{full, impl.DOp{}, impl.DkForm}, {full, impl.DOp{Kind: impl.DkRemove, Name: "c", Data: "x"}, impl.DkForm}, {full, renameOf("c", ""), impl.DkForm},
		{full, removeOf("c"), impl.DkNone}, {full, renameOf("c", "d"), impl.DkNone}, {full, renameOf("c", "c"), impl.DkNone},
		{full, removeOf("a"), impl.DkFull}, {full, renameOf("a", "a"), impl.DkFull}, {full, appendOf("a", ""), impl.DkFull}, {full, appendOf("c", ""), impl.DkFull},
		{diskWith(manyFiles(60, 60)), impl.DOp{Kind: impl.DkAppend, Name: "a", To: "b"}, impl.DkForm}, {diskWith(manyFiles(60, 60)), appendOf("a", ""), impl.DkFull},
		{diskWith(manyFiles(60, 60)), appendOf("f00", "x"), impl.DkOk}, {diskWith(manyFiles(60, 60)), renameOf("f00", "a"), impl.DkOk}, {diskWith(manyFiles(59, 59)), appendOf("a", ""), impl.DkOk},
		{diskWith(filesOf("a", zeros(200000))), appendOf("a", "x"), impl.DkFull}, {diskWith(filesOf("a", zeros(200000))), appendOf("b", "x"), impl.DkFull},
		{diskWith(filesOf("a", zeros(200000))), appendOf("b", ""), impl.DkOk}, {diskWith(filesOf("a", zeros(199999))), appendOf("b", "x"), impl.DkOk}, {diskWith(filesOf("a", zeros(199999))), appendOf("b", "xy"), impl.DkFull},
		{impl.Disk{}, appendOf("a", zeros(200000)), impl.DkOk}, {impl.Disk{}, appendOf("a", zeros(200001)), impl.DkFull},
		{diskWith(filesOf("a", "", "b", ""), manyAppends(199)...), removeOf("b"), impl.DkOk},
	}
	for i, row := range rows {
		_, code := doOn(t, row.d, row.op)
		checkCode(t, code, row.code, fmt.Sprintf("row %d", i))
		checkDo(t, row.d, row.op, fmt.Sprintf("row %d", i))
	}
}

func TestDoAsTheDocumentSays(t *testing.T) {
	d := diskWith(filesOf("a", "one", "b", "two"))
	rows := []struct {
		op   impl.DOp
		live []impl.File
	}{
		{appendOf("a", "+"), filesOf("a", "one+", "b", "two")}, {appendOf("a", ""), filesOf("a", "one", "b", "two")},
		{appendOf("c", "new"), filesOf("a", "one", "b", "two", "c", "new")}, {appendOf("Z", ""), filesOf("Z", "", "a", "one", "b", "two")},
		{renameOf("a", "c"), filesOf("b", "two", "c", "one")}, {renameOf("b", "A"), filesOf("A", "two", "a", "one")},
		{renameOf("a", "b"), filesOf("b", "one")}, {renameOf("b", "a"), filesOf("a", "two")},
		{renameOf("a", "a"), filesOf("a", "one", "b", "two")}, {renameOf("b", "b"), filesOf("a", "one", "b", "two")},
		{removeOf("a"), filesOf("b", "two")}, {removeOf("b"), filesOf("a", "one")},
	}
	for _, row := range rows {
		got, code := doOn(t, d, row.op)
		want := impl.Disk{Live: row.live, Safe: d.Safe, Ops: []impl.DOp{row.op}}
		if code != impl.DkOk || !sameDisk(got, want) || !diskOk(t, got) {
			t.Errorf("%+v: code %d, %+v", row.op, code, got)
		}
		if got := synced(t, got); !sameDisk(got, impl.Disk{Live: row.live, Safe: row.live}) {
			t.Errorf("%+v, synced: %+v", row.op, got)
		}
	}
	if [4]int64{impl.DkAppend, impl.DkRename, impl.DkRemove, impl.DkOk} != [4]int64{1, 2, 3, 0} || [4]int64{impl.DkDisk, impl.DkForm, impl.DkNone, impl.DkFull} != [4]int64{1, 2, 3, 4} {
		t.Error("the codes are others")
	}
}

func TestSyncAndFilesOfEachDisk(t *testing.T) {
	for why, d := range someDisks() {
		want := impl.Disk{Live: d.Live, Safe: d.Live}
		if got := synced(t, d); !sameDisk(got, want) || !diskOk(t, got) {
			t.Errorf("%s: not as it was seen", why)
		}
		for _, f := range d.Live {
			if data, ok := fileOf(t, d, f.Name); !ok || data != f.Data {
				t.Errorf("%s: %q has %d bytes, %t", why, f.Name, len(data), ok)
			}
		}
		for _, name := range []string{"", "none", strings.Repeat("n", 101), "f60", "a\x00"} {
			if data, ok := fileOf(t, d, name); ok || data != "" {
				t.Errorf("%s: %q is there", why, name)
			}
		}
	}
	d := diskWith(filesOf("a", "one"), removeOf("a"), appendOf("b", "two"))
	if _, ok := fileOf(t, d, "a"); ok {
		t.Error("a file that is safe, but not seen, is read")
	}
}

func checkCrash(t *testing.T, d impl.Disk, keep []int64, torn int64, why string) {
	t.Helper()
	want, can := knownCrash(d, keep, torn)
	got, ok := crashed(t, d, keep, torn)
	if ok != can || !sameDisk(got, want) {
		t.Errorf("%s: keep %d, torn %d: %t, want %t, with %.200v", why, keep, torn, ok, can, got)
	}
	if ok && !diskOk(t, got) {
		t.Errorf("%s: keep %d, torn %d: what is left is not right", why, keep, torn)
	}
}

// choices answers all lists of rising places below n.
func choices(n int) [][]int64 {
	out := [][]int64{nil}
	for place := range n {
		for _, l := range out {
			out = append(out, slices.Concat(l, []int64{int64(place)}))
		}
	}
	return out
}

func allPlaces(n int) []int64 {
	return choices(n)[1<<n-1]
}

// crashDisks have few ops each, of which many depend on the others.
func crashDisks() map[string]impl.Disk {
	ab := filesOf("a", "one", "b", "two")
	return map[string]impl.Disk{
		"no ops":           diskWith(ab),
		"nothing safe":     diskWith(nil, appendOf("a", "abc"), appendOf("b", ""), appendOf("a", "def")),
		"renames":          diskWith(ab, renameOf("a", "c"), renameOf("c", "b"), renameOf("b", "d"), renameOf("d", "d"), appendOf("d", "+++")),
		"removes":          diskWith(ab, removeOf("a"), appendOf("a", "new"), removeOf("b"), removeOf("a"), appendOf("c", "xyz"), renameOf("c", "a")),
		"a replaced file":  diskWith(ab, appendOf("a.new", "data"), renameOf("a.new", "a")),
		"replaced twice":   diskWith(filesOf("a", "one", "a.new", "old"), removeOf("a.new"), appendOf("a.new", "data"), renameOf("a.new", "a"), appendOf("a.new", "more"), renameOf("a.new", "a")),
		"all files":        diskWith(manyFiles(60, 60), removeOf("f00"), appendOf("a", "abc"), removeOf("f01"), appendOf("b", ""), renameOf("b", "f02")),
		"all files, above": diskWith(manyFiles(60, 60), removeOf("f00"), appendOf("x", "abc"), renameOf("x", "f05"), appendOf("y", "d")),
		"all bytes":        diskWith(filesOf("a", zeros(100000), "b", zeros(99998)), removeOf("a"), appendOf("c", zeros(4)), appendOf("d", zeros(100000-4)), removeOf("b"), appendOf("a", "xyz")),
		"bytes that come":  diskWith(filesOf("a", zeros(199999)), renameOf("a", "b"), appendOf("b", "x"), removeOf("b"), appendOf("b", "xyz")),
	}
}

func TestCrashWithEveryChoice(t *testing.T) {
	for why, d := range crashDisks() {
		if !diskOk(t, d) {
			t.Fatalf("%s: the disk is not right", why)
		}
		for _, keep := range choices(len(d.Ops)) {
			for _, torn := range []int64{0, 1, 2, 3, 4, 5, 99995, 99996, 99997, math.MaxInt64, -1, math.MinInt64} {
				checkCrash(t, d, keep, torn, why)
			}
		}
	}
}

func TestCrashThatIsRefused(t *testing.T) {
	for why, d := range crashDisks() {
		n := int64(len(d.Ops))
		lists := [][]int64{{-1}, {n}, {n + 1}, {math.MinInt64}, {math.MaxInt64}, {0, n}, {-1, 0}, {0, 0}, {1, 0}, {0, 1, 1}, {0, 2, 1}, {n - 1, n - 1}, {1 << 32}, append(allPlaces(int(n)), n)}
		for _, keep := range lists {
			for _, torn := range []int64{0, 3, 1000} {
				checkCrash(t, d, keep, torn, why)
				if got, ok := crashed(t, d, keep, torn); ok || !noDisk(got) {
					t.Errorf("%s: keep %d is taken", why, keep)
				}
			}
		}
		if got, ok := crashed(t, d, nil, -1); ok || !noDisk(got) {
			t.Errorf("%s: torn at -1", why)
		}
	}
}

// When all ops are kept, whole, there is what was seen; when none is, what was synced.
func TestCrashThatKeepsAllOrNothing(t *testing.T) {
	for _, disks := range []map[string]impl.Disk{someDisks(), crashDisks()} {
		for why, d := range disks {
			var places []int64
			for place := range d.Ops {
				places = append(places, int64(place))
			}
			if got, ok := crashed(t, d, places, 200000); !ok || !sameDisk(got, impl.Disk{Live: d.Live, Safe: d.Live}) {
				t.Errorf("%s: all is kept: %t", why, ok)
			}
			if got, ok := crashed(t, d, nil, 0); !ok || !sameDisk(got, impl.Disk{Live: d.Safe, Safe: d.Safe}) {
				t.Errorf("%s: nothing is kept: %t", why, ok)
			}
		}
	}
}

func TestCrashTornAtEachByte(t *testing.T) {
	d := diskWith(filesOf("a", "one"), appendOf("a", "abc"), appendOf("a", "defg"), appendOf("b", "xyz"))
	rows := []struct {
		keep []int64
		torn int64
		want []impl.File
	}{
		{[]int64{0}, 0, filesOf("a", "one")}, {[]int64{0}, 2, filesOf("a", "oneab")}, {[]int64{0}, 3, filesOf("a", "oneabc")}, {[]int64{0}, 4, filesOf("a", "oneabc")},
		{[]int64{0, 1}, 0, filesOf("a", "oneabc")}, {[]int64{0, 1}, 1, filesOf("a", "oneabcd")}, {[]int64{0, 1}, 4, filesOf("a", "oneabcdefg")},
		{[]int64{1}, 1, filesOf("a", "oned")}, {[]int64{2}, 0, filesOf("a", "one", "b", "")}, {[]int64{2}, 1, filesOf("a", "one", "b", "x")},
		{[]int64{0, 2}, 1, filesOf("a", "oneabc", "b", "x")}, {[]int64{0, 1, 2}, 99, filesOf("a", "oneabcdefg", "b", "xyz")}, {nil, 99, filesOf("a", "one")},
	}
	for _, row := range rows {
		got, ok := crashed(t, d, row.keep, row.torn)
		if !ok || !sameDisk(got, impl.Disk{Live: row.want, Safe: row.want}) {
			t.Errorf("keep %d, torn %d: %+v, %t", row.keep, row.torn, got, ok)
		}
	}
	other := diskWith(filesOf("a", "one", "b", "two"), appendOf("a", "abc"), renameOf("a", "b"))
	if got, ok := crashed(t, other, []int64{0, 1}, 0); !ok || !slices.Equal(got.Live, filesOf("b", "oneabc")) {
		t.Errorf("the last one is no DkAppend: %+v, %t", got, ok)
	}
}

func checkReplace(t *testing.T, d impl.Disk, name string, data string, why string) {
	t.Helper()
	want, code := knownReplace(d, name, data)
	got, c := replaced(t, d, name, data)
	if c != code || !sameDisk(got, want) {
		t.Errorf("%s: %.20q: code %d, want %d, with %d files, %d safe, %d ops", why, name, c, code, len(got.Live), len(got.Safe), len(got.Ops))
	}
}

func TestReplaceOnEachDisk(t *testing.T) {
	for _, disks := range []map[string]impl.Disk{someDisks(), crashDisks()} {
		for why, d := range disks {
			for _, name := range []string{"a", "b", "c", "f00", "", "a.new", strings.Repeat("l", 96), strings.Repeat("l", 97), strings.Repeat("l", 100), strings.Repeat("l", 101)} {
				for _, data := range []string{"", "x", zeros(100000), zeros(200000), zeros(200001)} {
					checkReplace(t, d, name, data, fmt.Sprintf("%s, %d bytes", why, len(data)))
				}
			}
		}
	}
}

func TestReplaceAsTheDocumentSays(t *testing.T) {
	was := filesOf("a", "one")
	left := filesOf("a", "one", "a.new", "left")
	appends := slices.Repeat([]impl.DOp{appendOf("a", "")}, 200)
	rows := []struct {
		d    impl.Disk
		name string
		data string
		code int64
		live []impl.File
		ops  int
	}{
		{diskWith(was), "a", "two", impl.DkOk, filesOf("a", "two"), 2},
		{diskWith(was), "b", "two", impl.DkOk, filesOf("a", "one", "b", "two"), 2},
		{diskWith(left), "a", "two", impl.DkOk, filesOf("a", "two"), 3},
		{diskWith(left), "a", "", impl.DkOk, filesOf("a", ""), 3},
		{diskWith(nil), strings.Repeat("l", 96), "two", impl.DkOk, filesOf(strings.Repeat("l", 96), "two"), 2},
		{diskWith(was), strings.Repeat("l", 97), "two", impl.DkForm, was, 0},
		{diskWith(was), "", "two", impl.DkForm, was, 0},
		{diskWith(filesOf(".new", "left")), "", "two", impl.DkForm, filesOf(".new", "left"), 0},
		{diskWith(was, appends[:198]...), "a", "two", impl.DkOk, filesOf("a", "two"), 200},
		{diskWith(was, appends[:199]...), "a", "two", impl.DkFull, was, 199},
		{diskWith(was, appends[:200]...), "a", "two", impl.DkFull, was, 200},
		{diskWith(left, appends[:197]...), "a", "two", impl.DkOk, filesOf("a", "two"), 200},
		{diskWith(left, appends[:198]...), "a", "two", impl.DkFull, left, 198},
		{diskWith(left, appends[:199]...), "a", "two", impl.DkFull, left, 199},
		{diskWith(filesOf("a", zeros(100000))), "a", zeros(100000), impl.DkOk, filesOf("a", zeros(100000)), 2},
		{diskWith(filesOf("a", zeros(100000))), "a", zeros(100001), impl.DkFull, filesOf("a", zeros(100000)), 0},
		{diskWith(filesOf("a", zeros(100000), "a.new", zeros(100000))), "a", zeros(100000), impl.DkOk, filesOf("a", zeros(100000)), 3},
		{diskWith(filesOf("a", zeros(100000), "a.new", zeros(100000))), "a", zeros(100001), impl.DkFull, filesOf("a", zeros(100000), "a.new", zeros(100000)), 0},
		{diskWith(manyFiles(60, 60)), "f00", "two", impl.DkFull, manyFiles(60, 60), 0},
	}
	for i, row := range rows {
		got, code := replaced(t, row.d, row.name, row.data)
		if code != row.code || !slices.Equal(got.Live, row.live) || !slices.Equal(got.Safe, row.d.Safe) || len(got.Ops) != row.ops || !diskOk(t, got) {
			t.Errorf("row %d: code %d, %d files, %d ops", i, code, len(got.Live), len(got.Ops))
		}
	}
}

// Whichever of its ops are kept, and wherever the last one is torn, a file that is replaced is the old one or the new one.
func TestReplaceIsAllOrNothing(t *testing.T) {
	rests := [][]impl.File{nil, filesOf("b", "other"), manyFiles(58, 500)}
	for _, rest := range rests {
		for _, old := range []string{"", "old", "the old one, longer"} {
			for _, fresh := range []string{"", "new", "the new one, a little longer"} {
				safe := knownFilesOf(rest)
				safe["a"] = old
				checkOldOrNew(t, impl.Disk{Live: safe.list(), Safe: safe.list()}, "a", old, true, fresh)
				checkOldOrNew(t, diskWith(rest), "a", "", false, fresh)
			}
		}
	}
}

func checkOldOrNew(t *testing.T, d impl.Disk, name string, old string, there bool, fresh string) {
	t.Helper()
	e, code := replaced(t, d, name, fresh)
	checkCode(t, code, impl.DkOk, "a file is replaced")
	for _, keep := range choices(len(e.Ops)) {
		for torn := int64(0); torn <= int64(len(fresh))+1; torn++ {
			left, ok := crashed(t, e, keep, torn)
			if !ok {
				t.Errorf("keep %d, torn %d is refused", keep, torn)
			}
			data, is := fileOf(t, left, name)
			if !(is == there && data == old) && !(is && data == fresh) {
				t.Errorf("keep %d, torn %d: %q, %t, of %q and %q", keep, torn, data, is, old, fresh)
			}
		}
	}
}

func randomDOp(r *rand.Rand) impl.DOp {
	names := []string{"a", "b", "c", "a.new", "log", "", strings.Repeat("n", 101)}
	name, to := names[r.Intn(5+r.Intn(3))], names[r.Intn(5+r.Intn(3))]
	switch r.Intn(8) {
	case 0, 1, 2, 3:
		return appendOf(name, randomText(r, r.Intn(5)))
	case 4, 5:
		return renameOf(name, to)
	case 6:
		return removeOf(name)
	}
	return impl.DOp{Kind: r.Int63n(5), Name: name, To: to, Data: randomText(r, r.Intn(2))}
}

// Whatever is done on a disk, it is right, and is the one of the model behind each step.
func TestManyOps(t *testing.T) {
	r := fixedRandom()
	for range 20 {
		d := impl.Disk{}
		for range 60 {
			var want, got impl.Disk
			var code, c int64
			switch r.Intn(10) {
			case 0:
				want, got = knownSync(d), synced(t, d)
			case 1, 2:
				name, data := []string{"a", "b", "log"}[r.Intn(3)], randomText(r, r.Intn(5))
				want, code = knownReplace(d, name, data)
				got, c = replaced(t, d, name, data)
			default:
				op := randomDOp(r)
				want, code = knownDo(d, op)
				got, c = doOn(t, d, op)
			}
			if c != code || !sameDisk(got, want) || !diskOk(t, got) {
				t.Fatalf("code %d, want %d, %+v, want %+v", c, code, got, want)
			}
			d = got
			keep := slices.DeleteFunc(allKept(d), func(int64) bool { return r.Intn(2) == 0 })
			checkCrash(t, d, keep, r.Int63n(6), "on the way")
			checkSpoilt(t, r, d)
		}
	}
}

func allKept(d impl.Disk) []int64 {
	var keep []int64
	for place := range d.Ops {
		keep = append(keep, int64(place))
	}
	return keep
}

// checkSpoilt asks a disk of which one thing is another: it may be right by chance.
func checkSpoilt(t *testing.T, r *rand.Rand, d impl.Disk) {
	t.Helper()
	d = copyOfDisk(d)
	switch {
	case r.Intn(3) == 0 && len(d.Live) > 0:
		d.Live[r.Intn(len(d.Live))].Data += "x"
	case r.Intn(2) == 0 && len(d.Safe) > 0:
		d.Safe = slices.Delete(d.Safe, 0, 1)
	case len(d.Ops) > 0:
		d.Ops[r.Intn(len(d.Ops))] = randomDOp(r)
	}
	if diskOk(t, d) != knownDiskOk(d) {
		t.Errorf("DiskOk(%+v) = %t", d, !knownDiskOk(d))
	}
}

// Where an op ahead is lost there may be more in between than a disk has room for; at the end there may not.
func TestCrashWithMoreInBetween(t *testing.T) {
	files := diskWith(manyFiles(60, 60), removeOf("f00"), appendOf("x", "abc"), renameOf("x", "f05"))
	if got, ok := crashed(t, files, []int64{1, 2}, 9); !ok || len(got.Live) != 60 {
		t.Errorf("61 files in between: %d files, %t", len(got.Live), ok)
	}
	if got, ok := crashed(t, files, []int64{1}, 9); ok || !noDisk(got) {
		t.Error("61 files at the end")
	}
	bytes := diskWith(filesOf("a", zeros(200000)), removeOf("a"), appendOf("b", "abc"), removeOf("b"))
	if got, ok := crashed(t, bytes, []int64{1, 2}, 9); !ok || !slices.Equal(got.Live, bytes.Safe) {
		t.Errorf("200003 bytes in between: %d files, %t", len(got.Live), ok)
	}
	for torn, want := range []bool{true, false, false, false, false} {
		if got, ok := crashed(t, bytes, []int64{1}, int64(torn)); ok != want || len(got.Live) != 2*boolRank(want) {
			t.Errorf("%d bytes too many at the end: %t", torn, ok)
		}
	}
}

func TestDisksAtTheSameTime(t *testing.T) {
	d := crashDisks()["removes"]
	want, _ := knownCrash(d, []int64{0, 1, 4}, 2)
	var group sync.WaitGroup
	for range 8 {
		group.Go(func() {
			for range 50 {
				if got, ok := impl.Crash(d, []int64{0, 1, 4}, 2); !ok || !sameDisk(got, want) {
					t.Error("the same arguments have another answer")
				}
			}
		})
	}
	group.Wait()
}
