package tests

import (
	"go/ast"
	"go/parser"
	"go/token"
	"maps"
	"path/filepath"
	"reflect"
	"slices"
	"strings"
	"sync"
	"testing"

	"loop.example/g00569/impl"
)

var (
	someKeys   = some("", logKey, otherKey, logKey[1:], logKey+"x")
	someNonces = some("", slotNonce, slotNonce[1:], slotNonce+"x")
	someTexts  = some("", "u", "abc\x80\x00\x00", countedText(64), countedText(65), countedText(1000), countedText(4000), countedText(4001))
	someNames  = some("", "u", "v", "http://f1.example", "id01", "a b", strings.Repeat("u", 20), strings.Repeat("u", 21))
	someCounts = some[int64](-1, 0, 1, 2, 31, 32, 64, 200000, 200001, 4294967295, 4294967296)
)

func wordCalls() []functionCalls {
	lists := some([]int64(nil), []int64{1, 2, 3, 4}, []int64{maxWord, 0, maxWord, 7}, []int64{1, 2, 3}, []int64{1, 2, 3, -1}, slices.Repeat([]int64{5}, 1000), make([]int64, 1001))
	counters := some[int64](-1, 0, 1, 4294960000, 4294960001, maxWord, maxWord+1)
	numbers := some("", lowFirst(prime(), 17), zeros(17), "\x07"+zeros(16), strings.Repeat("\xff", 16)+"\x03", strings.Repeat("\xff", 17), countedText(16))
	return []functionCalls{
		{"Rotl", impl.Rotl, crossed(someCounts, someCounts)},
		{"LoadLe", impl.LoadLe, crossed(someTexts)},
		{"StoreLe", impl.StoreLe, crossed(lists)},
		{"Hex", impl.Hex, crossed(someTexts)},
		{"Unhex", impl.Unhex, crossed(some("", "00ff", "0", "0g", "FF", strings.Repeat("a", 8000), strings.Repeat("a", 8002)))},
		{"Xor", impl.Xor, crossed(someTexts, someTexts)},
		{"Quarter", impl.Quarter, crossed(lists)},
		{"ChaBlock", impl.ChaBlock, crossed(someKeys, someNonces, counters)},
		{"ChaStream", impl.ChaStream, crossed(someKeys, someNonces, counters, someTexts)},
		{"NumOk", impl.NumOk, crossed(numbers)},
		{"NumAdd", impl.NumAdd, crossed(numbers, numbers)},
		{"NumMul", impl.NumMul, crossed(numbers, numbers)},
		{"TagOf", impl.TagOf, crossed(someKeys, someTexts)},
	}
}

func sealCalls() []functionCalls {
	with := some("", "beside", countedText(1000), countedText(1001))
	box := impl.Sealed(logKey, slotNonce, "beside", "text")
	boxes := some("", box, turned(box, 3), box[1:], zeros(16))
	states := some("", logKey, countedText(31), countedText(33), countedText(64))
	return []functionCalls{
		{"Sealed", impl.Sealed, crossed(someKeys, someNonces, with, someTexts)},
		{"Opened", impl.Opened, crossed(someKeys, someNonces, with, boxes)},
		{"Padded", impl.Padded, crossed(someTexts, some[int64](-1, 0, 1, 64, 256, 257))},
		{"Unpadded", impl.Unpadded, crossed(someTexts)},
		{"ShaPad", impl.ShaPad, crossed(someTexts)},
		{"ShaStep", impl.ShaStep, crossed(states, states)},
		{"Sha256", impl.Sha256, crossed(someTexts)},
		{"Hmac", impl.Hmac, crossed(someTexts, someTexts)},
		{"Expand", impl.Expand, crossed(someTexts, with, some[int64](-1, 0, 1, 33, 1000, 1001))},
		{"Stretched", impl.Stretched, crossed(with, with, some[int64](0, 1, 2, 50, 51))},
	}
}

func dateAndFeedCalls() []functionCalls {
	dates := some(impl.Date{}, impl.Date{Year: 1970, Month: 1, Day: 1}, impl.Date{Year: 2024, Month: 2, Day: 29}, impl.Date{Year: 2026, Month: 2, Day: 29}, impl.Date{Year: 2517, Month: 8, Day: 1}, impl.Date{Year: 2517, Month: 8, Day: 2})
	feeds := []impl.Feed{{}, {Url: "u"}, feedOf(2), feedOf(12), feedOf(13), longestFeed(), feedWithIds([]string{"b", "a"}), feedWith("u v", "", "1", "", 1)}
	var texts []any
	for _, f := range feeds {
		texts = append(texts, knownFeedText(f))
	}
	texts = append(texts, "", emptyFeedText+" ", strings.Repeat("a", 4001))
	plain := some("", "u", `a & <b> "c"`, "a &amp; b", "&amp;lt;", "&apos;", strings.Repeat("&", 200), strings.Repeat("&", 201), strings.Repeat("&quot;", 200), strings.Repeat("&quot;", 201))
	return []functionCalls{
		{"DateOk", impl.DateOk, crossed(dates)},
		{"DayOf", impl.DayOf, crossed(dates)},
		{"DateOf", impl.DateOf, crossed(someCounts)},
		{"DateText", impl.DateText, crossed(dates)},
		{"ReadDate", impl.ReadDate, crossed(some("", "1970-01-01", "2024-02-29", "2026-02-29", "2517-08-02", "2026-11-19 "))},
		{"Escaped", impl.Escaped, crossed(plain)},
		{"Plain", impl.Plain, crossed(plain)},
		{"FeedOk", impl.FeedOk, crossed(some(feeds...))},
		{"FeedText", impl.FeedText, crossed(some(feeds...))},
		{"ReadFeed", impl.ReadFeed, crossed(texts)},
	}
}

func someReaders() []any {
	return some(impl.Reader{}, readerOf(subOf("u", entryOf("1", 5, ""), entryOf("2", 9, "rs"))), wideReader(2, 12), wideReader(6, 3), fullEdges(), wideReader(7, 1), wideReader(2, 13), readerOf(subOf("b"), subOf("a")))
}

func everyOp() []impl.Op {
	return slices.Concat(nineOps(), rightOps("http://f1.example", "id01"), []impl.Op{{}, addOf("u v"), purgeOf(-1), fetchOf(feedOf(13)), fetchOf(longestFeed()), {Kind: 10, Url: "u"}, {Kind: impl.OpAdd, Url: "u", Id: "1"}})
}

func someLists() []any {
	return some([]impl.Op(nil), sixOps(), nineOps(), []impl.Op{dropOf("u")}, append(sixOps(), impl.Op{}), manyAdds(7), flips(100), flips(101), flips(201), flips(501))
}

func readerCalls() []functionCalls {
	readers, ops := someReaders(), some(everyOp()...)
	texts := some("", "add", "add ", "read u 1 ", "purge 2026-02-30", "fetch u")
	for _, o := range everyOp() {
		texts = append(texts, knownOpText(o))
	}
	return []functionCalls{
		{"ReaderOk", impl.ReaderOk, crossed(readers)},
		{"OpOk", impl.OpOk, crossed(ops)},
		{"Done", impl.Done, crossed(readers, ops)},
		{"Folded", impl.Folded, crossed(someLists())},
		{"Unread", impl.Unread, crossed(readers)},
		{"Newest", impl.Newest, crossed(readers, someCounts)},
		{"Found", impl.Found, crossed(readers, some("", "t1", "tid01", "t1 ", "none"))},
		{"Counts", impl.Counts, crossed(readers, someNames)},
		{"OpText", impl.OpText, crossed(ops)},
		{"ReadOp", impl.ReadOp, crossed(texts)},
		{"ReaderText", impl.ReaderText, crossed(readers)},
	}
}

func someVaults() []any {
	right := knownVault{ops: sixOps(), count: 6}.vault()
	return some(impl.Vault{}, right, knownVault{sixOps(), "torn", 6}.vault(), impl.Vault{Log: right.Log, Count: 5}, impl.Vault{Log: right.Log, Count: 7}, impl.Vault{Log: right.Log, Count: 1}, impl.Vault{Count: -1}, impl.Vault{Count: 401},
		impl.Vault{Log: zeros(300000)}, impl.Vault{Log: zeros(300001)}, knownVault{ops: []impl.Op{dropOf("u")}, count: 1}.vault(), knownVault{ops: nineOps()[:1], count: 1}.vault())
}

func vaultCalls() []functionCalls {
	vaults, ops := someVaults(), some(everyOp()...)
	log := knownLog(logKey, sixOps())
	logs := some("", log, log+"torn", log[:len(log)-1], turned(log, 8*len(log)-1), zeros(700000), zeros(700001))
	return []functionCalls{
		{"BoxOf", impl.BoxOf, crossed(someKeys, some[int64](0, 1, 1000000, 1000001), some("", noBox, noBox+"."), ops)},
		{"LogOf", impl.LogOf, crossed(someKeys, someLists())},
		{"ReadLog", impl.ReadLog, crossed(someKeys, logs)},
		{"VaultOpen", impl.VaultOpen, crossed(someKeys, vaults)},
		{"VaultDo", impl.VaultDo, crossed(someKeys, vaults, ops)},
		{"VaultPlay", impl.VaultPlay, crossed(someKeys[1:3], vaults, someLists())},
		{"Compacted", impl.Compacted, crossed(someKeys, vaults)},
		{"Rekeyed", impl.Rekeyed, crossed(someKeys, someKeys, vaults)},
		{"Snapshot", impl.Snapshot, crossed(someReaders())},
	}
}

func fewDisks() []any {
	right, wrong := someDisks(), wrongDisks()
	return some(right["the zero value"], right["two files"], right["not synced"], right["all ops"], right["200 ops"], right["60 files"], wrong["Live without an op"], wrong["an op too much"], wrong["201 ops"], wrong["another file"])
}

func fewStores() []any {
	l := someStores()
	wrong := l["an empty log"]
	wrong.Count = 401
	return some(l["the zero value"], l["no log"], l["an empty log"], l["a log not synced"], l["can not be folded"], l["a box not synced"], l["a part not synced"], l["renamed, not synced"], l["all ops"], l["Count 3, 0 bytes torn"], l["Count 3, 4 bytes torn, log.new"], l["Count 1, 0 bytes torn"], wrong)
}

func everyAct() []impl.Act {
	var out []impl.Act
	for _, a := range someActs() {
		out = append(out, a, withPower(a, 0), withPower(a, 1), withPower(a, 3))
	}
	return out
}

func diskCalls() []functionCalls {
	disks, stores := fewDisks(), fewStores()
	names := some("", "a", "b", "z", "log", strings.Repeat("n", 100), strings.Repeat("n", 101))
	ops := some(appendOf("a", "x"), appendOf("z", ""), renameOf("a", "z"), renameOf("z", "a"), removeOf("a"), removeOf("z"), wrongForms()[0], wrongForms()[7], appendOf("a", zeros(200001)))
	keeps := some([]int64(nil), []int64{0}, []int64{1}, []int64{0, 1}, []int64{1, 0}, []int64{-1}, []int64{0, 2, 4}, allKept(someDisks()["200 ops"]))
	plays := some([]impl.Act(nil), []impl.Act{newAct(), opAct(addOf("w")), openAct()}, []impl.Act{opAct(addOf("w")), crashAct(nil, 0), opAct(addOf("w"))}, everyAct())
	return []functionCalls{
		{"DiskOk", impl.DiskOk, crossed(disks)},
		{"Do", impl.Do, crossed(disks, ops)},
		{"Sync", impl.Sync, crossed(disks)},
		{"Crash", impl.Crash, crossed(disks, keeps, some[int64](-1, 0, 1, 99))},
		{"ReadFile", impl.ReadFile, crossed(disks, names)},
		{"Replace", impl.Replace, crossed(disks, names, some("", "data", zeros(200001)))},
		{"StoreView", impl.StoreView, crossed(someKeys, stores)},
		{"StoreDo", impl.StoreDo, crossed(someKeys[1:3], stores, some(everyAct()...))},
		{"StorePlay", impl.StorePlay, crossed(someKeys[1:], stores, plays)},
	}
}

func pollAndSlotCalls() []functionCalls {
	polls := []impl.Poll{{}, {Url: "u", Wait: 10}, {Url: "u", Mark: "m", Next: 5, Wait: 25, Fails: 20}, {Url: "v", Wait: 1000, Next: 900000000}, {Url: "w", Wait: 10, Gone: true}, {Url: "u", Wait: 9}, {Url: "u v", Wait: 10}}
	var answers []any
	for _, code := range []int64{99, 100, 200, 301, 304, 308, 404, 410, 429, 503, 599, 600} {
		answers = append(answers, impl.Answer{Code: code}, impl.Answer{Code: code, Mark: "n", Url: "v", After: 100000}, impl.Answer{Code: code, After: 100001})
	}
	times := some[int64](-1, 0, 4, 5, 900000000, 900000001, 1000000000, 1000000001)
	slot, _ := rightWrapping().slot()
	other := slot
	other.Rounds = 51
	slots := some(slot, impl.Slot{}, other, impl.Slot{Salt: slotSalt, Rounds: 1, Nonce: slotNonce, Box: zeros(48)})
	passes, salts := some("", "pass", "other", strings.Repeat("p", 100), strings.Repeat("p", 101)), some("", slotSalt, slotSalt+"x")
	return []functionCalls{
		{"PollNew", impl.PollNew, crossed(someNames, times)},
		{"PollOk", impl.PollOk, crossed(some(polls...))},
		{"PollAfter", impl.PollAfter, crossed(some(polls...), times, answers)},
		{"Due", impl.Due, crossed(some([]impl.Poll(nil), polls, slices.Repeat(polls, 7), slices.Repeat(polls, 8)), times)},
		{"SlotOf", impl.SlotOf, crossed(passes, salts, some[int64](0, 1, 50, 51), someNonces, someKeys)},
		{"KeyIn", impl.KeyIn, crossed(slots, passes)},
		{"Rewrapped", impl.Rewrapped, crossed(slots, passes, passes, salts, someNonces)},
		{"SlotText", impl.SlotText, crossed(slots)},
		{"ReadSlot", impl.ReadSlot, crossed(some("", knownSlotText(slot), knownSlotText(slot)+" ", knownSlotText(other), " 1 2 3 4"))},
	}
}

func folderAndScriptCalls() []functionCalls {
	wrong := wrongFolders()
	lists := [][]impl.Folder{nil, someFolders(), wideFolders(4, 3), wideFolders(4, 0), longestFolders(), {folderOf("a", "u", "v")}, wrong["a Url in two folders"], wrong["names that fall"], wrong["Urls that fall"], wrong["5 folders"]}
	var texts []any
	for _, l := range lists {
		texts = append(texts, knownFoldersText(l))
	}
	scripts := some("", "\n", "unread", scriptOf(newsLines()...), scriptOf(slices.Concat(newsLines(), askingLines(), tellingLines(), askingLines())...), scriptOf(fullLines()...), scriptOf(append(fullLines(), askingLines()...)...), scriptOf("fly", "", "add u", "add u", "log"),
		strings.Repeat("log\n", 30), strings.Repeat("log\n", 31), filled("", " ", 4000), filled("", " ", 4001))
	return []functionCalls{
		{"FoldersOk", impl.FoldersOk, crossed(some(lists...))},
		{"FoldersText", impl.FoldersText, crossed(some(lists...))},
		{"ReadFolders", impl.ReadFolders, crossed(append(texts, "", "<opml></opml> "))},
		{"Moved", impl.Moved, crossed(some(lists...), someNames, some("", "a", "f1", "work", "123456789"))},
		{"Imported", impl.Imported, crossed(someReaders(), some(lists...))},
		{"RunScript", impl.RunScript, crossed(scripts)},
	}
}

func everyFunction() []functionCalls {
	return slices.Concat(wordCalls(), sealCalls(), dateAndFeedCalls(), readerCalls(), vaultCalls(), diskCalls(), pollAndSlotCalls(), folderAndScriptCalls())
}

// That no function of the program is forgotten is seen by what its files declare.
func TestEveryFunctionIsCalled(t *testing.T) {
	files, _ := filepath.Glob("../impl/*.go")
	var declared, asked []string
	for _, file := range files {
		tree, err := parser.ParseFile(token.NewFileSet(), file, nil, 0)
		if err != nil {
			t.Fatal(err)
		}
		for _, d := range tree.Decls {
			if f, ok := d.(*ast.FuncDecl); ok && f.Recv == nil && f.Name.IsExported() {
				declared = append(declared, f.Name.Name)
			}
		}
	}
	for _, f := range everyFunction() {
		asked = append(asked, f.name)
	}
	slices.Sort(declared)
	slices.Sort(asked)
	if len(declared) == 0 || !slices.Equal(asked, declared) {
		t.Errorf("%q are called, and %q declared", asked, declared)
	}
}

// Each call is made twice, and once more when all others have been made, in another order: it answers the same, and each time with new memory.
func TestTheSameArgumentsGiveTheSameAnswers(t *testing.T) {
	functions := everyFunction()
	said := make([][]string, len(functions))
	for i, f := range functions {
		answers := map[string]bool{}
		var ahead []reflect.Value
		for _, args := range f.calls {
			first, lists := called(t, f, args)
			again, more := called(t, f, args)
			if again != first {
				t.Errorf("%s answers %.300q, and then %.300q", f.name, first, again)
			}
			if shareMemory(slices.Concat(ahead, lists, more)) {
				t.Errorf("%s answers with memory that it gave out ahead: %.300q", f.name, first)
			}
			ahead, answers[first] = more, true
			said[i] = append(said[i], first)
		}
		if len(answers) < 2 {
			t.Errorf("%s gives one answer alone: %.300q", f.name, slices.Collect(maps.Keys(answers)))
		}
	}
	for i, f := range slices.Backward(functions) {
		for k, args := range slices.Backward(f.calls) {
			if again, _ := called(t, f, args); again != said[i][k] {
				t.Errorf("behind all others %s answers %.300q, and first %.300q", f.name, again, said[i][k])
			}
		}
	}
}

// Calls that are made at the same time take the same arguments, not copies of them.
func TestEveryFunctionAtTheSameTime(t *testing.T) {
	for _, f := range everyFunction() {
		calls := f.calls[:min(len(f.calls), 200)]
		var in [][]reflect.Value
		var said, was []string
		for _, args := range calls {
			values := valuesOf(args)
			in, was = append(in, values), append(was, allWritten(values, true))
			said = append(said, allWritten(reflect.ValueOf(f.function).Call(values), false))
		}
		var group sync.WaitGroup
		for first := range 4 {
			group.Go(func() {
				for i := range in {
					place := (i + first*len(in)/4) % len(in)
					if got := allWritten(reflect.ValueOf(f.function).Call(in[place]), false); got != said[place] {
						t.Errorf("%s answers %.300q, and alone %.300q", f.name, got, said[place])
					}
				}
			})
		}
		group.Wait()
		for i, values := range in {
			if allWritten(values, true) != was[i] {
				t.Errorf("%s wrote into an argument: %.300q", f.name, was[i])
			}
		}
	}
}
