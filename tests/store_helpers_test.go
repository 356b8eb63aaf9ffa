package tests

import (
	"slices"
	"strings"
	"testing"

	"loop.example/g00569/impl"
)

// What stands in the room behind a list of a disk or of an act.
var (
	roomFile = impl.File{Name: "room", Data: "behind files"}
	roomDOp  = impl.DOp{Kind: -6, Name: "room"}
	roomAct  = impl.Act{Kind: -5, Data: "room"}
)

func sameDisk(a impl.Disk, b impl.Disk) bool {
	return slices.Equal(a.Live, b.Live) && slices.Equal(a.Safe, b.Safe) && slices.Equal(a.Ops, b.Ops)
}

func sameStore(a impl.Store, b impl.Store) bool {
	return sameDisk(a.Disk, b.Disk) && a.Count == b.Count
}

func sameAct(a impl.Act, b impl.Act) bool {
	return a.Kind == b.Kind && sameOp(a.Op, b.Op) && a.Power == b.Power && slices.Equal(a.Keep, b.Keep) && a.Torn == b.Torn && a.Data == b.Data
}

func noDisk(d impl.Disk) bool {
	return sameDisk(d, impl.Disk{})
}

func noStore(s impl.Store) bool {
	return sameStore(s, impl.Store{})
}

func copyOfDisk(d impl.Disk) impl.Disk {
	return impl.Disk{Live: slices.Clone(d.Live), Safe: slices.Clone(d.Safe), Ops: slices.Clone(d.Ops)}
}

func guardedDisk(d impl.Disk) (impl.Disk, func() bool) {
	live, sameLive := guardedList(d.Live, roomFile, equal)
	safe, sameSafe := guardedList(d.Safe, roomFile, equal)
	ops, sameOps := guardedList(d.Ops, roomDOp, equal)
	return impl.Disk{Live: live, Safe: safe, Ops: ops}, all([]func() bool{sameLive, sameSafe, sameOps})
}

func guardedAct(a impl.Act) (impl.Act, func() bool) {
	o, sameO := guardedOp(a.Op)
	keep, sameKeep := guardedList(a.Keep, -77, equal)
	a.Op, a.Keep = o, keep
	return a, all([]func() bool{sameO, sameKeep})
}

func guardedActs(l []impl.Act) ([]impl.Act, func() bool) {
	var checks []func() bool
	acts := slices.Clone(l)
	for i, a := range acts {
		act, same := guardedAct(a)
		acts[i], checks = act, append(checks, same)
	}
	acts, same := guardedList(acts, roomAct, sameAct)
	return acts, all(append(checks, same))
}

func spoilFiles(l []impl.File, name string) {
	l = l[:cap(l)]
	for i := range l {
		l[i] = impl.File{Name: name}
	}
}

// takenDisk answers a copy of what a call gave, and then spoils that, list by list and with the room behind each: neither the arguments nor another list may change by it.
func takenDisk(t *testing.T, got impl.Disk, unchanged func() bool) impl.Disk {
	t.Helper()
	want := copyOfDisk(got)
	spoilFiles(got.Live, "spoilt, seen")
	if !slices.Equal(got.Safe, want.Safe) {
		t.Error("both lists of files share memory")
	}
	spoilFiles(got.Safe, "spoilt, safe")
	if len(got.Live) > 0 && got.Live[0].Name != "spoilt, seen" {
		t.Error("both lists of files share room")
	}
	ops := got.Ops[:cap(got.Ops)]
	for i := range ops {
		ops[i] = impl.DOp{Kind: -1}
	}
	if !unchanged() {
		t.Error("the answer shares memory with an argument, or an argument was written into")
	}
	return want
}

func takenCodes(got []int64) []int64 {
	want := slices.Clone(got)
	spoil(got[:cap(got)])
	return want
}

func vaultOpen(t *testing.T, key string, v impl.Vault) (impl.Reader, int64) {
	t.Helper()
	wasKey, was := strings.Clone(key), strings.Clone(v.Log)
	r, code := impl.VaultOpen(key, v)
	return taken(t, r, func() bool { return key == wasKey && v.Log == was }), code
}

func vaultDo(t *testing.T, key string, v impl.Vault, o impl.Op) (impl.Vault, int64) {
	t.Helper()
	wasKey, was := strings.Clone(key), strings.Clone(v.Log)
	o, unchanged := guardedOp(o)
	next, code := impl.VaultDo(key, v, o)
	if !unchanged() || key != wasKey || v.Log != was {
		t.Errorf("VaultDo wrote into %q, %+v, or a log of %d bytes", wasKey, o, len(was))
	}
	return next, code
}

func vaultPlay(t *testing.T, key string, v impl.Vault, l []impl.Op) (impl.Vault, []int64) {
	t.Helper()
	wasKey, was := strings.Clone(key), strings.Clone(v.Log)
	l, unchanged := guardedOps(l)
	next, codes := impl.VaultPlay(key, v, l)
	if !unchanged() || key != wasKey || v.Log != was {
		t.Errorf("VaultPlay wrote into %q, %d operations, or a log of %d bytes", wasKey, len(l), len(was))
	}
	return next, takenCodes(codes)
}

func diskOk(t *testing.T, d impl.Disk) bool {
	t.Helper()
	d, unchanged := guardedDisk(d)
	ok := impl.DiskOk(d)
	if !unchanged() {
		t.Error("DiskOk wrote into its argument")
	}
	return ok
}

func doOn(t *testing.T, d impl.Disk, op impl.DOp) (impl.Disk, int64) {
	t.Helper()
	d, unchanged := guardedDisk(d)
	next, code := impl.Do(d, op)
	return takenDisk(t, next, unchanged), code
}

func synced(t *testing.T, d impl.Disk) impl.Disk {
	t.Helper()
	d, unchanged := guardedDisk(d)
	return takenDisk(t, impl.Sync(d), unchanged)
}

func crashed(t *testing.T, d impl.Disk, keep []int64, torn int64) (impl.Disk, bool) {
	t.Helper()
	d, sameD := guardedDisk(d)
	keep, sameKeep := guardedList(keep, -77, equal)
	next, ok := impl.Crash(d, keep, torn)
	return takenDisk(t, next, all([]func() bool{sameD, sameKeep})), ok
}

func fileOf(t *testing.T, d impl.Disk, name string) (string, bool) {
	t.Helper()
	d, unchanged := guardedDisk(d)
	data, ok := impl.ReadFile(d, name)
	if !unchanged() {
		t.Error("ReadFile wrote into its argument")
	}
	return data, ok
}

func replaced(t *testing.T, d impl.Disk, name string, data string) (impl.Disk, int64) {
	t.Helper()
	d, unchanged := guardedDisk(d)
	next, code := impl.Replace(d, name, data)
	return takenDisk(t, next, unchanged), code
}

func storeView(t *testing.T, key string, s impl.Store) (impl.Reader, int64) {
	t.Helper()
	disk, unchanged := guardedDisk(s.Disk)
	r, code := impl.StoreView(key, impl.Store{Disk: disk, Count: s.Count})
	return taken(t, r, unchanged), code
}

func storeDo(t *testing.T, key string, s impl.Store, a impl.Act) (impl.Store, int64) {
	t.Helper()
	disk, sameD := guardedDisk(s.Disk)
	a, sameA := guardedAct(a)
	next, code := impl.StoreDo(key, impl.Store{Disk: disk, Count: s.Count}, a)
	return impl.Store{Disk: takenDisk(t, next.Disk, all([]func() bool{sameD, sameA})), Count: next.Count}, code
}

func storePlay(t *testing.T, key string, s impl.Store, l []impl.Act) (impl.Store, []int64) {
	t.Helper()
	disk, sameD := guardedDisk(s.Disk)
	l, sameL := guardedActs(l)
	next, codes := impl.StorePlay(key, impl.Store{Disk: disk, Count: s.Count}, l)
	return impl.Store{Disk: takenDisk(t, next.Disk, all([]func() bool{sameD, sameL})), Count: next.Count}, takenCodes(codes)
}
