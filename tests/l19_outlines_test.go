package tests

import (
	"fmt"
	"slices"
	"strings"
	"sync"
	"testing"

	"loop.example/g00569/impl"
)

// namesThatAreNone are none for their bytes or for how many there are.
func namesThatAreNone(most int) []string {
	return slices.DeleteFunc(namesAbout(most), func(s string) bool { return isKnownNameOf(s, most) })
}

// wrongFolders are each wrong in one way, with that way as their key.
func wrongFolders() map[string][]impl.Folder {
	out := map[string][]impl.Folder{
		"a zero folder":                   {{}},
		"5 folders":                       wideFolders(5, 1),
		"5 folders without Urls":          wideFolders(5, 0),
		"13 Urls in one folder":           wideFolders(1, 13),
		"13 Urls in all":                  append(wideFolders(3, 4), folderOf("z", "z")),
		"16 Urls in all":                  wideFolders(4, 4),
		"names that fall":                 {folderOf("b", "u"), folderOf("a", "v")},
		"names that are alike":            {folderOf("a", "u"), folderOf("a", "v")},
		"empty folders that are alike":    {folderOf("a"), folderOf("a")},
		"a name ahead of its beginning":   {folderOf("ab", "u"), folderOf("a", "v")},
		"Urls that fall":                  {folderOf("a", "v", "u")},
		"Urls that are alike":             {folderOf("a", "u", "u")},
		"a Url ahead of its beginning":    {folderOf("a", "uu", "u")},
		"numbers by value":                {folderOf("a", "2", "10")},
		"the last Urls fall":              {folderOf("a", "t", "v", "u")},
		"a Url in two folders":            {folderOf("a", "u"), folderOf("b", "u")},
		"a Url in the first and the last": {folderOf("a", "t", "u"), folderOf("b", "v"), folderOf("c"), folderOf("d", "s", "u", "w")},
	}
	for place := range 4 {
		for _, name := range namesThatAreNone(8) {
			l := wideFolders(4, 2)
			l[place].Name = name
			out[fmt.Sprintf("the name %q of folder %d", name, place)] = l
		}
		for _, url := range namesThatAreNone(20) {
			for k := range 3 {
				l := wideFolders(4, 3)
				l[place].Urls[k] = url
				out[fmt.Sprintf("Url %q at %d of folder %d", url, k, place)] = l
			}
		}
	}
	return out
}

func TestFoldersThatAreRight(t *testing.T) {
	rows := map[string][]impl.Folder{
		"none":                   nil,
		"an empty list":          {},
		"a folder of no Urls":    {folderOf("a")},
		"no Urls in a list":      {{Name: "a", Urls: []string{}}},
		"no Urls in the middle":  {folderOf("a", "u"), folderOf("b"), folderOf("c", "v")},
		"12 Urls in one folder":  wideFolders(1, 12),
		"12 Urls and no Urls":    append(wideFolders(1, 12), folderOf("g"), folderOf("h"), folderOf("i")),
		"12 Urls in all":         {folderOf("a", "1", "2", "3", "4", "5"), folderOf("b", "6", "7"), folderOf("c"), folderOf("d", "0", "8", "9", "a", "b")},
		"order by bytes":         {folderOf("A", "u"), folderOf("a", "v"), folderOf("aa", "w")},
		"numbers by bytes":       {folderOf("10", "10", "2"), folderOf("2", "1", "3")},
		"a Url as the name":      {folderOf("a", "a", "b"), folderOf("b", "c")},
		"names with marks":       {folderOf(`"&<>`, `"`, "&", "<", ">"), folderOf("&amp;", "&amp;", "&lt;x"), folderOf(`<a/>`, `"/><`), folderOf("</x>", "</outline>", "</opml>")},
		"all at their limits":    longestFolders(),
		"all of greatest length": {folderOf("12345678", strings.Repeat("u", 20)), folderOf("~~~~~~~~", strings.Repeat("!", 20), strings.Repeat("~", 20))},
	}
	rows["names with marks"] = sortedFolders(rows["names with marks"])
	for folders := range 5 {
		for urls := range 4 {
			rows[fmt.Sprintf("%d folders of %d", folders, urls)] = wideFolders(folders, urls)
		}
	}
	for why, l := range rows {
		if !knownFoldersOk(l) {
			t.Fatalf("%s: not right", why)
		}
		checkFolders(t, l, why)
	}
	if impl.MaxFolders != 4 {
		t.Error("MaxFolders is another")
	}
}

func sortedFolders(l []impl.Folder) []impl.Folder {
	slices.SortFunc(l, func(a, b impl.Folder) int { return strings.Compare(a.Name, b.Name) })
	for _, f := range l {
		slices.Sort(f.Urls)
	}
	return l
}

func TestFoldersThatAreNotRight(t *testing.T) {
	for why, l := range wrongFolders() {
		if knownFoldersOk(l) {
			t.Fatalf("%s: right", why)
		}
		checkNoFolders(t, l, why)
	}
	for i := range 3 {
		l := wideFolders(4, 3)
		l[i], l[i+1] = l[i+1], l[i]
		checkNoFolders(t, l, fmt.Sprintf("folders %d and %d change places", i, i+1))
		l = wideFolders(4, 3)
		l[i+1].Name = l[i].Name
		checkNoFolders(t, l, fmt.Sprintf("folders %d and %d are alike", i, i+1))
	}
	for i := range 11 {
		l := wideFolders(1, 12)
		l[0].Urls[i], l[0].Urls[i+1] = l[0].Urls[i+1], l[0].Urls[i]
		checkNoFolders(t, l, fmt.Sprintf("Urls %d and %d change places", i, i+1))
		l[0].Urls[i] = l[0].Urls[i+1]
		checkNoFolders(t, l, fmt.Sprintf("Urls %d and %d are alike", i, i+1))
	}
}

func TestFoldersOfManyBytesOrUrls(t *testing.T) {
	long := strings.Repeat("u", 1<<20)
	for why, l := range map[string][]impl.Folder{"a long Url": {folderOf("a", long)}, "a long name": {folderOf(long, "u")}, "100 folders": wideFolders(100, 1), "1000 Urls": wideFolders(1, 1000)} {
		checkNoFolders(t, l, why)
	}
}

func TestEachByteOfAFolder(t *testing.T) {
	for c := range 256 {
		b := string([]byte{byte(c)})
		for _, s := range []string{b, "a" + b, b + "a"} {
			for _, l := range [][]impl.Folder{{folderOf(s, "u")}, {folderOf("a", s)}} {
				if c >= 33 && c <= 126 {
					checkFolders(t, l, fmt.Sprintf("with %q", s))
				} else {
					checkNoFolders(t, l, fmt.Sprintf("with %q", s))
				}
			}
		}
	}
}

func TestFoldersTextAsTheDocumentSays(t *testing.T) {
	l := []impl.Folder{folderOf("a&b", `"x"`, "<y>"), folderOf("empty"), folderOf("work", "http://w.example/f")}
	want := `<opml><outline text="a&amp;b"><outline url="&quot;x&quot;"/><outline url="&lt;y&gt;"/></outline>` +
		`<outline text="empty"></outline><outline text="work"><outline url="http://w.example/f"/></outline></opml>`
	if got := foldersText(t, l); got != want {
		t.Errorf("FoldersText = %q, want %q", got, want)
	}
	if got, ok := readFolders(t, want); !ok || !sameFolders(got, l) {
		t.Errorf("ReadFolders = %+v, %t", got, ok)
	}
	if got := foldersText(t, nil); got != "<opml></opml>" {
		t.Errorf("no folder: %q", got)
	}
	if n := len(foldersText(t, longestFolders())); n != 1943 {
		t.Errorf("the longest text has %d bytes", n)
	}
}

func TestRightFoldersComeBack(t *testing.T) {
	r := fixedRandom()
	for range 2000 {
		checkFolders(t, randomFolders(r), "some folders")
		var l []impl.Folder
		for range r.Intn(5) {
			l = append(l, impl.Folder{Name: randomBytes(r, 1, 8, 33)})
		}
		for range r.Intn(13) {
			if len(l) > 0 {
				f := &l[r.Intn(len(l))]
				f.Urls = append(f.Urls, randomBytes(r, 1, 20, 33))
			}
		}
		if l = sortedFolders(l); knownFoldersOk(l) {
			checkFolders(t, l, "whatever bytes")
		} else {
			checkNoFolders(t, l, "whatever bytes, some alike")
		}
	}
}

func someFolders() []impl.Folder {
	return []impl.Folder{folderOf("b&c", "v"), folderOf("e"), folderOf("work", "a<", "u")}
}

// A text is read when it is that of folders, and in no other spelling; it is cut at each byte, too.
func TestFoldersHaveOneText(t *testing.T) {
	for _, l := range [][]impl.Folder{someFolders(), {folderOf("a")}, {folderOf("a", "u")}, nil} {
		s := knownFoldersText(l)
		for i := range len(s) {
			checkNoFoldersText(t, s[:i], "the beginning alone")
			checkNoFoldersText(t, s[i+1:], "the end alone")
			checkReadFolders(t, s[:i]+s[i+1:])
			for c := range 256 {
				b := string([]byte{byte(c)})
				checkReadFolders(t, s[:i]+b+s[i:])
				checkReadFolders(t, s[:i]+b+s[i+1:])
			}
		}
		for _, more := range []string{" ", "\n", "a", "\x00", "<", s, "</opml>", "</outline>", `<outline text="z"></outline>`} {
			checkNoFoldersText(t, s+more, "more behind")
			checkNoFoldersText(t, more+s, "more ahead")
		}
	}
}

func TestFoldersTextsWithMarksLeftOutOrTwice(t *testing.T) {
	s := knownFoldersText(someFolders())
	for _, mark := range []string{"<opml>", "</opml>", "</outline>", `<outline text="`, `">`, `<outline url="`, `"/>`, "<outline", "text=", "url=", `"`, "<", ">", "/"} {
		for n := range strings.Count(s, mark) {
			parts := strings.SplitAfterN(s, mark, n+2)
			ahead, behind := strings.Join(parts[:n+1], ""), parts[n+1]
			without := strings.TrimSuffix(ahead, mark)
			for _, other := range []string{"", mark + mark, strings.ToUpper(mark), knownEscapes.Replace(mark), " " + mark, mark + " ", "\n" + mark} {
				if other != mark {
					checkReadFolders(t, without+other+behind)
				}
			}
		}
	}
}

func TestFoldersTextsWrittenInAnotherWay(t *testing.T) {
	for _, s := range []string{
		"", " ", "<opml/>", "<opml>", "</opml>", "<opml></opml> ", "<OPML></OPML>", "<opml ></opml>", "<opml> </opml>", "<opml></opml></opml>", "<opml><opml></opml></opml>",
		`<outline text="a"></outline>`,
		`<opml><outline text="a"/></opml>`,
		`<opml><outline text="a"><outline url="u"></outline></opml>`,
		`<opml><outline text="a"><outline url="u"></outline></outline></opml>`,
		`<opml><outline text="a"><outline url="u" /></outline></opml>`,
		`<opml><outline text='a'><outline url='u'/></outline></opml>`,
		`<opml><outline url="u"/></opml>`,
		`<opml><outline url="u"/><outline text="a"></outline></opml>`,
		`<opml><outline text="a"></outline><outline url="u"/></opml>`,
		`<opml><outline text="a"><outline text="b"></outline></outline></opml>`,
		`<opml><outline text="a"><outline url="u"/></outline></outline></opml>`,
		`<opml><outline text="a"><outline url="u"/></opml>`,
		`<opml><outline text="a"><outline url="u"/></opml></outline>`,
		`<opml><outline text="a"> <outline url="u"/></outline></opml>`,
		`<opml><outline text="a"><outline url="u"/> </outline></opml>`,
		`<opml><outline text="a"></outline> <outline text="b"></outline></opml>`,
		`<opml><outline text=""></outline></opml>`,
		`<opml><outline text="a"><outline url=""/></outline></opml>`,
		`<opml><outline text="a b"></outline></opml>`,
		`<opml><outline text="a&b"></outline></opml>`,
		`<opml><outline text="a<b"></outline></opml>`,
		`<opml><outline text="a>b"></outline></opml>`,
		`<opml><outline text="&#97;"></outline></opml>`,
		`<opml><outline text="&apos;"></outline></opml>`,
		`<opml><outline text="a"><outline url="&#117;"/></outline></opml>`,
		`<opml><outline text="a"><outline url="u>"/></outline></opml>`,
		`<opml><outline text="a"><outline url="u""/></outline></opml>`,
	} {
		checkNoFoldersText(t, s, "another way")
	}
}

// No right folders have a text of 3000 bytes, so none of that many is read.
func TestFoldersTextsOfManyBytes(t *testing.T) {
	head, tail := `<opml><outline text="`, `"></outline></opml>`
	for _, n := range []int{1000, 2999, 3000, 3001, 6000, 1 << 20} {
		checkNoFoldersText(t, head+strings.Repeat("n", n-len(head)-len(tail))+tail, "a long name")
		checkNoFoldersText(t, strings.Repeat(" ", n), "blanks")
		checkNoFoldersText(t, "<opml></opml>"+strings.Repeat(" ", n-13), "blanks behind")
		checkNoFoldersText(t, "<opml>"+strings.Repeat("<", n-6), "marks")
	}
	many := knownFoldersText(wideFolders(1, 90))
	if len(many) <= 3000 {
		t.Fatalf("the text has just %d bytes", len(many))
	}
	checkNoFoldersText(t, many, "90 Urls")
}

func TestMovesAsTheDocumentSays(t *testing.T) {
	l := []impl.Folder{folderOf("b", "v"), folderOf("d", "a", "u"), folderOf("f", "w")}
	b, d, f := l[0], l[1], l[2]
	rows := []struct {
		why  string
		url  string
		name string
		want []impl.Folder
	}{
		{"to a folder that is there", "u", "b", []impl.Folder{folderOf("b", "u", "v"), folderOf("d", "a"), f}},
		{"a new Url, to a folder that is there", "k", "d", []impl.Folder{b, folderOf("d", "a", "k", "u"), f}},
		{"to a new folder ahead of the others", "u", "a", []impl.Folder{folderOf("a", "u"), b, folderOf("d", "a"), f}},
		{"to a new folder between the others", "a", "c", []impl.Folder{b, folderOf("c", "a"), folderOf("d", "u"), f}},
		{"to a new folder behind the others", "u", "g", []impl.Folder{b, folderOf("d", "a"), f, folderOf("g", "u")}},
		{"the only Url of its folder", "v", "d", []impl.Folder{folderOf("d", "a", "u", "v"), f}},
		{"the only Url of its folder, to a new one", "v", "e", []impl.Folder{d, folderOf("e", "v"), f}},
		{"the only Url of its folder, to its folder", "v", "b", l},
		{"one that is there already", "u", "d", l},
		{"a new Url to a new folder", "k", "k", []impl.Folder{b, d, f, folderOf("k", "k")}},
	}
	for _, row := range rows {
		got := checkMoved(t, l, row.url, row.name, row.why)
		if !sameFolders(got, row.want) {
			t.Errorf("%s: %+v, want %+v", row.why, got, row.want)
		}
		checkFolders(t, got, row.why)
	}
	got := checkMoved(t, nil, "u", "a", "to nothing")
	if !sameFolders(got, []impl.Folder{folderOf("a", "u")}) {
		t.Errorf("to nothing: %+v", got)
	}
}

// Folders without Urls are gone, be they left so by the move or not.
func TestMovesWhereFoldersAreEmpty(t *testing.T) {
	l := []impl.Folder{folderOf("a"), folderOf("b", "u"), folderOf("c"), folderOf("d", "v", "w")}
	rows := []struct {
		url  string
		name string
		want []impl.Folder
	}{
		{"u", "b", []impl.Folder{folderOf("b", "u"), folderOf("d", "v", "w")}},
		{"u", "a", []impl.Folder{folderOf("a", "u"), folderOf("d", "v", "w")}},
		{"u", "d", []impl.Folder{folderOf("d", "u", "v", "w")}},
		{"k", "c", []impl.Folder{folderOf("b", "u"), folderOf("c", "k"), folderOf("d", "v", "w")}},
		{"k", "new", []impl.Folder{folderOf("b", "u"), folderOf("d", "v", "w"), folderOf("new", "k")}},
		{"v", "a0", []impl.Folder{folderOf("a0", "v"), folderOf("b", "u"), folderOf("d", "w")}},
	}
	for _, row := range rows {
		if got := checkMoved(t, l, row.url, row.name, "some are empty"); !sameFolders(got, row.want) {
			t.Errorf("%q to %q: %+v, want %+v", row.url, row.name, got, row.want)
		}
	}
	if got := checkMoved(t, wideFolders(4, 0), "u", "f2", "all are empty"); !sameFolders(got, []impl.Folder{folderOf("f2", "u")}) {
		t.Errorf("all are empty: %+v", got)
	}
	if got := checkMoved(t, wideFolders(4, 0), "u", "f9", "all are empty, a fifth"); !sameFolders(got, []impl.Folder{folderOf("f9", "u")}) {
		t.Errorf("all are empty, a fifth: %+v", got)
	}
}

func TestMovesToAFifthFolder(t *testing.T) {
	for _, name := range []string{"a", "f0x", "f1x", "f2x", "z"} {
		for urls := 1; urls < 4; urls++ {
			l := wideFolders(4, urls)
			for place, f := range l {
				for _, url := range f.Urls {
					got := checkMoved(t, l, url, name, "a fifth folder")
					if (len(got) == 4) != (urls == 1) {
						t.Errorf("%q of folder %d with %d Urls to %q: %+v", url, place, urls, name, got)
					}
				}
			}
			checkNotMoved(t, l, "new", name, "a fifth folder for a new Url")
			l[2].Urls = nil
			if got := checkMoved(t, l, "new", name, "a fifth folder, where one is empty"); len(got) != 4 {
				t.Errorf("%+v", got)
			}
		}
	}
}

func TestMovesWhereThereAreManyUrls(t *testing.T) {
	for _, l := range [][]impl.Folder{wideFolders(1, 12), wideFolders(2, 6), wideFolders(3, 4), wideFolders(4, 3)} {
		for _, f := range l {
			checkNotMoved(t, l, "new", f.Name, "a thirteenth Url")
			for _, url := range f.Urls {
				for _, to := range l {
					if got := checkMoved(t, l, url, to.Name, "one of twelve"); len(got) == 0 {
						t.Errorf("%q is not moved to %q", url, to.Name)
					}
				}
			}
		}
		checkNotMoved(t, l, "new", "new", "a thirteenth Url, to a new folder")
		l[0].Urls = slices.Delete(l[0].Urls, 1, 2)
		if got := checkMoved(t, l, "new", "f0", "a twelfth Url"); len(got) != len(l) {
			t.Errorf("a twelfth Url: %+v", got)
		}
	}
}

func TestMovesThatAreNotRight(t *testing.T) {
	for _, l := range [][]impl.Folder{nil, someFolders(), wideFolders(4, 3)} {
		for _, url := range namesThatAreNone(20) {
			checkNotMoved(t, l, url, "work", fmt.Sprintf("the Url %q", url))
			checkNotMoved(t, l, url, "new", fmt.Sprintf("the Url %q", url))
		}
		for _, name := range namesThatAreNone(8) {
			checkNotMoved(t, l, "u", name, fmt.Sprintf("the name %q", name))
		}
	}
	for why, l := range wrongFolders() {
		for _, name := range []string{"a", "f0", "f3", "z"} {
			for _, url := range []string{"u", "http://01.example/2"} {
				checkNotMoved(t, l, url, name, why)
			}
		}
	}
	checkMoved(t, nil, strings.Repeat("u", 20), strings.Repeat("n", 8), "of the greatest length")
}

func TestManyMoves(t *testing.T) {
	r := fixedRandom()
	for range 40 {
		var l []impl.Folder
		for range 80 {
			got := checkMoved(t, l, fmt.Sprintf("u%d", r.Intn(15)), fmt.Sprintf("n%d", r.Intn(6)), "one more")
			if len(got) > 0 {
				l = got
				checkFolders(t, l, "behind a move")
			}
		}
		l = randomFolders(r)
		for _, name := range []string{"n0", "n2", "n4", "m", "z"} {
			for n := range 15 {
				checkMoved(t, l, fmt.Sprintf("u%d", n), name, "some folders")
			}
		}
	}
}

func TestImportsAsTheDocumentSays(t *testing.T) {
	l := []impl.Folder{folderOf("b", "z", "~"), folderOf("c"), folderOf("d", "a", "m", "u")}
	rows := []struct {
		has  []string
		want []string
	}{
		{nil, []string{"z", "~", "a", "m", "u"}},
		{[]string{"a", "z"}, []string{"~", "m", "u"}},
		{[]string{"b"}, []string{"z", "~", "a", "m", "u"}},
		{[]string{"a", "b", "m", "u", "z", "~"}, nil},
		{[]string{"a", "m", "u", "z", "~"}, nil},
	}
	for _, row := range rows {
		var r impl.Reader
		var want []impl.Op
		for _, url := range row.has {
			r.Subs = append(r.Subs, subOf(url, entryOf("1", 1, "rs")))
		}
		for _, url := range row.want {
			want = append(want, addOf(url))
		}
		checkImported(t, r, l, fmt.Sprintf("%q are there", row.has))
		if got, ok := imported(t, r, l); !ok || !sameOps(got, want) {
			t.Errorf("%q are there: %q, %t, want %q", row.has, textsOf(got), ok, textsOf(want))
		}
	}
}

// As many feeds as there is room for, and one more: of the folders, of the reader, and of both.
func TestImportsWhereThereAreMany(t *testing.T) {
	for had := range 7 {
		for both := range had + 1 {
			for fresh := range 13 - both {
				r, l := wideReader(had, 2), []impl.Folder{folderOf("a"), folderOf("b")}
				for i := range both {
					l[0].Urls = append(l[0].Urls, r.Subs[i].Url)
				}
				for i := range fresh {
					l[1].Urls = append(l[1].Urls, fmt.Sprintf("new%02d", i))
				}
				why := fmt.Sprintf("%d feeds, %d of them in folders, and %d more", had, both, fresh)
				checkImported(t, r, l, why)
				if _, ok := imported(t, r, l); ok != (had+fresh <= 6) {
					t.Errorf("%s: %t", why, ok)
				}
			}
		}
	}
}

func TestImportsOfNothing(t *testing.T) {
	for _, l := range [][]impl.Folder{nil, {}, {folderOf("a")}, wideFolders(4, 0)} {
		for subs := range 7 {
			r := wideReader(subs, 3)
			checkImported(t, r, l, "nothing")
			if got, ok := imported(t, r, l); !ok || len(got) != 0 {
				t.Errorf("nothing is imported: %q, %t", textsOf(got), ok)
			}
		}
	}
	checkImported(t, fullEdges(), nil, "all limits met")
}

func TestImportsThatAreNotRight(t *testing.T) {
	check := func(r impl.Reader, l []impl.Folder, why string) {
		t.Helper()
		if got, ok := imported(t, r, l); ok || len(got) != 0 {
			t.Errorf("%s: %q, %t", why, textsOf(got), ok)
		}
	}
	for why, r := range wrongReaders() {
		check(r, nil, why)
		check(r, []impl.Folder{folderOf("a")}, why)
		check(r, []impl.Folder{folderOf("a", "u")}, why)
		check(r, wrongFolders()["Urls that fall"], why)
	}
	for why, l := range wrongFolders() {
		check(impl.Reader{}, l, why)
		check(readerOf(subOf("u"), subOf("v")), l, why)
	}
}

func TestManyImports(t *testing.T) {
	random := fixedRandom()
	var r impl.Reader
	for range 1000 {
		if next, ok := impl.Done(r, randomOp(random)); ok {
			r = next
		}
		checkImported(t, r, randomFolders(random), "some folders")
	}
}

func TestFoldersAtTheSameTime(t *testing.T) {
	l, r := someFolders(), wideReader(2, 2)
	want, _ := knownMoved(l, "u", "b&c")
	ops, _ := knownImported(r, l)
	var group sync.WaitGroup
	for range 8 {
		group.Go(func() {
			for range 100 {
				got, ok := impl.Moved(l, "u", "b&c")
				more, can := impl.Imported(r, l)
				if !ok || !sameFolders(got, want) || !can || !sameOps(more, ops) {
					t.Error("the same arguments have another answer")
				}
			}
		})
	}
	group.Wait()
}
