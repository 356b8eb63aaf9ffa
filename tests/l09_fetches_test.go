package tests

import (
	"fmt"
	"slices"
	"testing"

	"loop.example/g00569/impl"
)

// manyEntries has Ids first, first + 1 .. of two digits, all with these marks, of the days that dayOf says.
func manyEntries(first int, count int, marks string, dayOf func(place int) int64) []impl.Entry {
	var l []impl.Entry
	for i := range count {
		l = append(l, entryOf(fmt.Sprintf("%02d", first+i), dayOf(i), marks))
	}
	return l
}

func oneDay(int) int64 { return 7 }

func laterAndLater(place int) int64 { return int64(place) }

func earlierAndEarlier(place int) int64 { return int64(100 - place) }

// fetchedBy has the entries' items, so that a row of a test names both in one way.
func fetchedBy(entries ...impl.Entry) impl.Op {
	f := impl.Feed{Url: "u", Title: "fetched"}
	for _, e := range entries {
		f.Items = append(f.Items, e.Item)
	}
	return fetchOf(f)
}

func checkFetch(t *testing.T, had []impl.Entry, fetched []impl.Entry, want []impl.Entry, why string) {
	t.Helper()
	beside := subOf("a", entryOf("00", 0, "r"), entryOf("1", 1, "s"))
	r := readerOf(beside, subOf("u", had...), subOf("z"))
	left := readerOf(beside, impl.Sub{Url: "u", Title: "fetched", Entries: want}, subOf("z"))
	checkDone(t, r, fetchedBy(fetched...), left, why)
}

func withoutIds(l []impl.Entry, ids ...string) []impl.Entry {
	return slices.DeleteFunc(slices.Clone(l), func(e impl.Entry) bool { return slices.Contains(ids, e.Item.Id) })
}

func TestFetchWhereThereIsRoom(t *testing.T) {
	checkFetch(t, nil, nil, nil, "nothing")
	checkFetch(t, nil, []impl.Entry{entryOf("1", 0, "")}, []impl.Entry{entryOf("1", 0, "")}, "the first day")
	checkFetch(t, nil, []impl.Entry{entryOf("1", impl.MaxDay, "")}, []impl.Entry{entryOf("1", impl.MaxDay, "")}, "the last day")
	had := []impl.Entry{entryOf("3", 3, "r"), entryOf("5", 1, "s")}
	checkFetch(t, had, nil, had, "a title alone")
	checkFetch(t, had,
		[]impl.Entry{entryOf("1", 9, ""), entryOf("4", 0, ""), entryOf("6", 5, "")},
		[]impl.Entry{entryOf("1", 9, ""), entryOf("3", 3, "r"), entryOf("4", 0, ""), entryOf("5", 1, "s"), entryOf("6", 5, "")},
		"ahead, between and behind")
}

func TestFetchTakesAnEmptyTitle(t *testing.T) {
	r := readerOf(subOf("u", entryOf("1", 1, "rs")))
	want := copiedReader(r)
	want.Subs[0].Title = ""
	checkDone(t, r, fetchOf(impl.Feed{Url: "u"}), want, "no title")
}

// An item that comes again takes the place of its Item, and the marks stay.
func TestFetchOfAnItemThatComesAgain(t *testing.T) {
	for _, marks := range []string{"", "r", "s", "rs"} {
		for _, again := range []impl.Item{{Id: "2", Title: "new", Day: 9}, {Id: "2", Title: "", Day: 0}, {Id: "2", Title: "t2", Day: 2}} {
			want := entryOf("2", 2, marks)
			want.Item = again
			checkFetch(t,
				[]impl.Entry{entryOf("1", 1, "r"), entryOf("2", 2, marks), entryOf("3", 3, "s")},
				[]impl.Entry{{Item: again}},
				[]impl.Entry{entryOf("1", 1, "r"), want, entryOf("3", 3, "s")},
				fmt.Sprintf("%+v with the marks %q", again, marks))
		}
	}
}

func TestFetchThatLeavesJustMaxItems(t *testing.T) {
	for had := range 13 {
		old := manyEntries(0, had, "r", laterAndLater)
		more := manyEntries(50, 12-had, "", earlierAndEarlier)
		checkFetch(t, old, more, slices.Concat(old, more), fmt.Sprintf("%d and %d", had, 12-had))
	}
	full := manyEntries(0, 12, "rs", oneDay)
	checkFetch(t, full, manyEntries(0, 12, "", oneDay), full, "twelve that come again")
	checkFetch(t, full, nil, full, "none, where there are twelve")
}

func TestFetchThatLeavesOneMore(t *testing.T) {
	for _, marks := range []string{"", "r"} {
		rising, falling, alike := manyEntries(10, 12, marks, laterAndLater), manyEntries(10, 12, marks, earlierAndEarlier), manyEntries(10, 12, marks, oneDay)
		late, early := entryOf("50", 200, ""), entryOf("50", 0, "")
		checkFetch(t, rising, []impl.Entry{late}, append(withoutIds(rising, "10"), late), "the first is the oldest")
		checkFetch(t, falling, []impl.Entry{late}, append(withoutIds(falling, "21"), late), "the last is the oldest")
		checkFetch(t, falling, []impl.Entry{early}, falling, "the new one is the oldest")
		checkFetch(t, alike, []impl.Entry{entryOf("50", 7, "")}, append(withoutIds(alike, "10"), entryOf("50", 7, "")), "of one Day the least Id goes")
		checkFetch(t, alike, []impl.Entry{entryOf("05", 7, "")}, alike, "of one Day the least Id goes, the new one")
		checkFetch(t, rising, []impl.Entry{entryOf("50", 0, "")}, append(withoutIds(rising, "10"), early), "of the least Day the least Id goes")
		checkFetch(t, rising, []impl.Entry{entryOf("05", 0, "")}, rising, "of the least Day the least Id goes, the new one")
	}
}

func TestFetchWithStars(t *testing.T) {
	starred := manyEntries(10, 12, "s", laterAndLater)
	late, early := entryOf("50", 200, ""), entryOf("50", 0, "")
	checkFetch(t, starred, []impl.Entry{late}, starred, "all others have Star, so the new one goes")
	checkFetch(t, starred, []impl.Entry{early}, starred, "the new one goes, the oldest or not")
	one := slices.Clone(starred)
	one[7].Star = false
	checkFetch(t, one, []impl.Entry{late}, append(withoutIds(one, "17"), late), "one has no Star")
	checkFetch(t, one, []impl.Entry{early}, one, "the new one is older than the one without Star")
	one[7].Read = true
	checkFetch(t, one, []impl.Entry{late}, append(withoutIds(one, "17"), late), "one is read, and has no Star")
	two := slices.Clone(starred)
	two[3].Star, two[9].Star = false, false
	checkFetch(t, two, []impl.Entry{late, entryOf("51", 201, "")}, append(withoutIds(two, "13", "19"), late, entryOf("51", 201, "")), "two have no Star")
	checkFetch(t, two, manyEntries(50, 12, "", earlierAndEarlier), slices.Concat(withoutIds(two, "13", "19"), manyEntries(50, 2, "", earlierAndEarlier)), "twelve come")
}

// Read counts for nothing when there is no room.
func TestFetchDoesNotAskRead(t *testing.T) {
	had := manyEntries(10, 12, "", laterAndLater)
	for i := range had {
		had[i].Read = i > 0
	}
	checkFetch(t, had, []impl.Entry{entryOf("50", 200, "")}, append(withoutIds(had, "10"), entryOf("50", 200, "")), "the oldest is not read")
}

func TestFetchOfManyAtOnce(t *testing.T) {
	old, more := manyEntries(10, 12, "rs", oneDay), manyEntries(50, 12, "", oneDay)
	checkFetch(t, old, more, old, "all with Star stay")
	old = manyEntries(10, 12, "r", oneDay)
	checkFetch(t, old, more, more, "of one Day the least Ids go")
	checkFetch(t, old, manyEntries(50, 5, "", oneDay), slices.Concat(old[5:], manyEntries(50, 5, "", oneDay)), "five go")
	checkFetch(t, manyEntries(50, 12, "r", oneDay), manyEntries(10, 12, "", oneDay), manyEntries(50, 12, "r", oneDay), "the new ones have the least Ids")
	checkFetch(t, manyEntries(10, 12, "", laterAndLater), manyEntries(50, 12, "", laterAndLater),
		slices.Concat(manyEntries(10, 12, "", laterAndLater)[6:], manyEntries(50, 12, "", laterAndLater)[6:]), "the days 0 .. 5 go")
}

// Room is made when all items are in: the oldest entry may come again as a newer one, and then it has its marks still.
func TestFetchOfTheOldestThatComesAgain(t *testing.T) {
	for _, marks := range []string{"", "r"} {
		had := manyEntries(10, 12, "", laterAndLater)
		had[11] = entryOf("21", 0, marks)
		again := impl.Item{Id: "21", Title: "again", Day: 300}
		newer := impl.Entry{Item: again, Read: marks == "r"}
		checkFetch(t, had, []impl.Entry{entryOf("15", 5, ""), {Item: again}}, append(withoutIds(had, "21"), newer), "none has to go")
		checkFetch(t, had, []impl.Entry{entryOf("09", 200, ""), {Item: again}},
			slices.Concat([]impl.Entry{entryOf("09", 200, "")}, withoutIds(had, "10", "21"), []impl.Entry{newer}), "it is the newest now, and another goes")
	}
}

func TestFetchOfOneThatComesAgainAndIsTheOldest(t *testing.T) {
	had := manyEntries(10, 12, "r", func(place int) int64 { return int64(20 + place) })
	old := func(star bool) impl.Entry {
		return impl.Entry{Item: impl.Item{Id: "15", Title: "older", Day: 1}, Read: true, Star: star}
	}
	late := entryOf("50", 200, "")
	checkFetch(t, had, []impl.Entry{old(false), late}, append(withoutIds(had, "15"), late), "it goes")
	had[5].Star = true
	want := append(slices.Clone(had), late)
	want[5] = old(true)
	checkFetch(t, had, []impl.Entry{old(false), late}, withoutIds(want, "10"), "it has Star, and stays")
}

// With Star on all there is no other way: marks come from entries alone, so all thirteen can not have it.
func TestFetchWhereAllHaveStar(t *testing.T) {
	starred := manyEntries(10, 12, "s", oneDay)
	var again []impl.Entry
	for i, e := range starred {
		e.Item.Day = int64(i * 3)
		again = append(again, e)
	}
	checkFetch(t, starred, again, again, "all come again")
	checkFetch(t, starred, append(slices.Clone(again[:11]), entryOf("50", 400, "")), append(slices.Clone(again[:11]), starred[11]), "eleven come again, and one more")
}

// What was fetched is there, unless there is no room.
func TestWhatWasFetchedIsThere(t *testing.T) {
	random := fixedRandom()
	for range 2000 {
		r := readerOf(subOf("u"))
		for _, item := range randomItems(random, "u").Items {
			r.Subs[0].Entries = append(r.Subs[0].Entries, impl.Entry{Item: item, Read: random.Intn(2) == 0, Star: random.Intn(3) == 0})
		}
		f := randomItems(random, "u")
		got, ok := done(t, r, fetchOf(f))
		if !ok || !readerOk(t, got) || len(got.Subs) != 1 || got.Subs[0].Title != f.Title {
			t.Fatalf("%+v, %t", got, ok)
		}
		checkFetched(t, r.Subs[0].Entries, f.Items, got.Subs[0].Entries)
	}
}

func entryWithId(l []impl.Entry, id string) (impl.Entry, bool) {
	place := slices.IndexFunc(l, func(e impl.Entry) bool { return e.Item.Id == id })
	if place < 0 {
		return impl.Entry{}, false
	}
	return l[place], true
}

func checkFetched(t *testing.T, had []impl.Entry, items []impl.Item, left []impl.Entry) {
	t.Helper()
	ids := map[string]bool{}
	for _, e := range had {
		ids[e.Item.Id] = true
	}
	for _, item := range items {
		ids[item.Id] = true
		e, there := entryWithId(left, item.Id)
		old, _ := entryWithId(had, item.Id)
		if there && (e.Item != item || e.Read != old.Read || e.Star != old.Star) {
			t.Errorf("%+v was fetched, and is %+v behind %+v", item, e, old)
		}
		if !there && len(left) < 12 {
			t.Errorf("%+v was fetched, is not there, and there is room: %+v", item, left)
		}
	}
	if len(left) != min(12, len(ids)) {
		t.Errorf("%d entries of %d", len(left), len(ids))
	}
	for _, e := range left {
		if !ids[e.Item.Id] {
			t.Errorf("%+v came from nowhere", e)
		}
	}
}
