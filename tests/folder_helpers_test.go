package tests

import (
	"fmt"
	"maps"
	"math/rand"
	"regexp"
	"slices"
	"strings"
	"testing"

	"loop.example/g00569/impl"
)

// What stands in the room behind a list of folders, or of Urls.
var (
	roomFolder = impl.Folder{Name: "room"}
	roomUrl    = "behind/urls"
)

var (
	foldersForm = regexp.MustCompile(`\A<opml>((?:<outline text="[^"<>]*">(?:<outline url="[^"<>]*"/>)*</outline>)*)</opml>\z`)
	folderForm  = regexp.MustCompile(`<outline text="([^"]*)">((?:<outline url="[^"]*"/>)*)</outline>`)
	urlForm     = regexp.MustCompile(`<outline url="([^"]*)"/>`)
	knownPlain  = strings.NewReplacer("&amp;", "&", "&lt;", "<", "&gt;", ">", "&quot;", `"`)
)

func sameFolder(a impl.Folder, b impl.Folder) bool {
	return a.Name == b.Name && slices.Equal(a.Urls, b.Urls)
}

func sameFolders(a []impl.Folder, b []impl.Folder) bool {
	return slices.EqualFunc(a, b, sameFolder)
}

func copiedFolders(l []impl.Folder) []impl.Folder {
	var out []impl.Folder
	for _, f := range l {
		out = append(out, impl.Folder{Name: f.Name, Urls: slices.Clone(f.Urls)})
	}
	return out
}

func guardedFolders(l []impl.Folder) ([]impl.Folder, func() bool) {
	var checks []func() bool
	folders := slices.Clone(l)
	for i, f := range folders {
		urls, same := guardedList(f.Urls, roomUrl, equal)
		folders[i].Urls, checks = urls, append(checks, same)
	}
	folders, same := guardedList(folders, roomFolder, sameFolder)
	return folders, all(append(checks, same))
}

// takenFolders answers a copy of what a call gave, and then spoils that, list by list and with the room behind each: neither the argument nor another list may change by it.
func takenFolders(t *testing.T, got []impl.Folder, unchanged func() bool) []impl.Folder {
	t.Helper()
	want := copiedFolders(got)
	var lists [][]string
	for _, f := range got {
		lists = append(lists, f.Urls)
	}
	whole := got[:cap(got)]
	for i := range whole {
		whole[i] = impl.Folder{Name: "spoilt"}
	}
	for i, l := range lists {
		if !slices.Equal(l, want[i].Urls) {
			t.Errorf("the Urls of %q share memory with another list of the answer", want[i].Name)
		}
		l = l[:cap(l)]
		for k := range l {
			l[k] = "spoilt"
		}
	}
	if !unchanged() {
		t.Error("the answer shares memory with the argument, or that was written into")
	}
	return want
}

func foldersOk(t *testing.T, l []impl.Folder) bool {
	t.Helper()
	l, unchanged := guardedFolders(l)
	ok := impl.FoldersOk(l)
	if !unchanged() {
		t.Errorf("FoldersOk wrote into %+v", l)
	}
	return ok
}

func foldersText(t *testing.T, l []impl.Folder) string {
	t.Helper()
	l, unchanged := guardedFolders(l)
	s := impl.FoldersText(l)
	if !unchanged() {
		t.Errorf("FoldersText wrote into %+v", l)
	}
	return s
}

func readFolders(t *testing.T, s string) ([]impl.Folder, bool) {
	t.Helper()
	was := strings.Clone(s)
	l, ok := impl.ReadFolders(s)
	return takenFolders(t, l, func() bool { return s == was }), ok
}

func moved(t *testing.T, l []impl.Folder, url string, name string) ([]impl.Folder, bool) {
	t.Helper()
	l, unchanged := guardedFolders(l)
	got, ok := impl.Moved(l, url, name)
	if !unchanged() {
		t.Errorf("Moved wrote into %+v", l)
	}
	return takenFolders(t, got, unchanged), ok
}

func imported(t *testing.T, r impl.Reader, l []impl.Folder) ([]impl.Op, bool) {
	t.Helper()
	r, sameR := guardedReader(r)
	l, sameL := guardedFolders(l)
	ops, ok := impl.Imported(r, l)
	got := takenOps(t, ops)
	if !sameR() || !sameL() {
		t.Errorf("Imported wrote into %+v or %+v, or its answer shares memory with them", r, l)
	}
	return got, ok
}

func knownFoldersOk(l []impl.Folder) bool {
	var names, urls []string
	for _, f := range l {
		if !isKnownNameOf(f.Name, 8) || !slices.Equal(f.Urls, knownSet(f.Urls)) {
			return false
		}
		names, urls = append(names, f.Name), append(urls, f.Urls...)
	}
	for _, url := range urls {
		if !isKnownNameOf(url, 20) {
			return false
		}
	}
	return len(l) <= 4 && slices.Equal(names, knownSet(names)) && len(urls) <= 12 && len(urls) == len(knownSet(urls))
}

// knownSet sorts a copy in which none is twice.
func knownSet(l []string) []string {
	return slices.Compact(slices.Sorted(slices.Values(l)))
}

// knownFoldersText writes folders without asking whether they are right.
func knownFoldersText(l []impl.Folder) string {
	out := "<opml>"
	for _, f := range l {
		out += fmt.Sprintf(`<outline text="%s">`, knownEscapes.Replace(f.Name))
		for _, url := range f.Urls {
			out += fmt.Sprintf(`<outline url="%s"/>`, knownEscapes.Replace(url))
		}
		out += "</outline>"
	}
	return out + "</opml>"
}

// knownReadFolders asks patterns; that each field is written as it is escaped is seen by writing it again.
func knownReadFolders(s string) ([]impl.Folder, bool) {
	whole := foldersForm.FindStringSubmatch(s)
	if whole == nil {
		return nil, false
	}
	var l []impl.Folder
	for _, m := range folderForm.FindAllStringSubmatch(whole[1], -1) {
		f := impl.Folder{Name: knownPlain.Replace(m[1])}
		for _, u := range urlForm.FindAllStringSubmatch(m[2], -1) {
			f.Urls = append(f.Urls, knownPlain.Replace(u[1]))
		}
		l = append(l, f)
	}
	if !knownFoldersOk(l) || knownFoldersText(l) != s || len(s) > 3000 {
		return nil, false
	}
	return l, true
}

// knownMoved keeps just the name of the folder that each Url is in.
func knownMoved(l []impl.Folder, url string, name string) ([]impl.Folder, bool) {
	if !knownFoldersOk(l) || !isKnownNameOf(url, 20) || !isKnownNameOf(name, 8) {
		return nil, false
	}
	at := map[string]string{}
	for _, f := range l {
		for _, u := range f.Urls {
			at[u] = f.Name
		}
	}
	at[url] = name
	var out []impl.Folder
	for _, n := range knownSet(slices.Collect(maps.Values(at))) {
		f := impl.Folder{Name: n}
		for _, u := range slices.Sorted(maps.Keys(at)) {
			if at[u] == n {
				f.Urls = append(f.Urls, u)
			}
		}
		out = append(out, f)
	}
	if len(out) > 4 || len(at) > 12 {
		return nil, false
	}
	return out, true
}

func knownImported(r impl.Reader, l []impl.Folder) ([]impl.Op, bool) {
	var out []impl.Op
	has := map[string]bool{}
	for _, s := range r.Subs {
		has[s.Url] = true
	}
	for _, f := range l {
		for _, url := range f.Urls {
			if !has[url] {
				out = append(out, addOf(url))
			}
		}
	}
	if !impl.ReaderOk(r) || !knownFoldersOk(l) || len(has)+len(out) > 6 {
		return nil, false
	}
	return out, true
}

func checkFolders(t *testing.T, l []impl.Folder, why string) {
	t.Helper()
	text := knownFoldersText(l)
	if !foldersOk(t, l) || foldersText(t, l) != text {
		t.Errorf("%s: %t, %q, want %q", why, foldersOk(t, l), foldersText(t, l), text)
	}
	if got, ok := readFolders(t, text); !ok || !sameFolders(got, l) {
		t.Errorf("%s: %+v comes back as %+v, %t", why, l, got, ok)
	}
}

// checkNoFolders asks, too, that what they would look like as a text is not read.
func checkNoFolders(t *testing.T, l []impl.Folder, why string) {
	t.Helper()
	if foldersOk(t, l) || foldersText(t, l) != "" {
		t.Errorf("%s: %t, %q", why, foldersOk(t, l), foldersText(t, l))
	}
	checkNoFoldersText(t, knownFoldersText(l), why)
	for _, name := range []string{"a", "new"} {
		if got, ok := moved(t, l, "u", name); ok || len(got) != 0 {
			t.Errorf("%s: moved to %+v, %t", why, got, ok)
		}
	}
	if got, ok := imported(t, impl.Reader{}, l); ok || len(got) != 0 {
		t.Errorf("%s: imported as %+v, %t", why, got, ok)
	}
}

func checkNoFoldersText(t *testing.T, s string, why string) {
	t.Helper()
	if l, ok := readFolders(t, s); ok || len(l) != 0 {
		t.Errorf("%s: %q is read as %+v, %t", why, s, l, ok)
	}
}

// checkReadFolders takes a text that may be one of folders or not.
func checkReadFolders(t *testing.T, s string) {
	t.Helper()
	want, can := knownReadFolders(s)
	if got, ok := readFolders(t, s); ok != can || !sameFolders(got, want) {
		t.Errorf("ReadFolders(%q) = %+v, %t, want %+v, %t", s, got, ok, want, can)
	}
}

func checkMoved(t *testing.T, l []impl.Folder, url string, name string, why string) []impl.Folder {
	t.Helper()
	want, can := knownMoved(l, url, name)
	got, ok := moved(t, l, url, name)
	if ok != can || !sameFolders(got, want) {
		t.Errorf("%s: %q moved to %q of %+v: %+v, %t, want %+v, %t", why, url, name, l, got, ok, want, can)
	}
	for _, f := range got {
		if slices.Contains(f.Urls, url) != (f.Name == name) || len(f.Urls) == 0 {
			t.Errorf("%s: %q moved to %q leaves %+v", why, url, name, f)
		}
	}
	return got
}

func checkNotMoved(t *testing.T, l []impl.Folder, url string, name string, why string) {
	t.Helper()
	if got, ok := moved(t, l, url, name); ok || len(got) != 0 {
		t.Errorf("%s: %q moved to %q: %+v, %t", why, url, name, got, ok)
	}
}

// checkImported asks, too, that all feeds of the folders are there behind an import, and the others as they were.
func checkImported(t *testing.T, r impl.Reader, l []impl.Folder, why string) {
	t.Helper()
	want, can := knownImported(r, l)
	got, ok := imported(t, r, l)
	if ok != can || !sameOps(got, want) {
		t.Errorf("%s: %q, %t, want %q, %t", why, textsOf(got), ok, textsOf(want), can)
	}
	left := r
	for _, o := range got {
		next, done := knownDone(left, o)
		if left = next; !done {
			t.Fatalf("%s: %s can not be done", why, knownOpText(o))
		}
	}
	for _, s := range left.Subs {
		_, there := knownOf(r)[s.Url]
		if there == slices.ContainsFunc(got, func(o impl.Op) bool { return o.Url == s.Url }) {
			t.Errorf("%s: %q is there ahead, %t", why, s.Url, there)
		}
	}
	for _, f := range l {
		for _, url := range f.Urls {
			if _, there := knownOf(left)[url]; can && !there {
				t.Errorf("%s: %q is not there behind the import", why, url)
			}
		}
	}
}

func folderOf(name string, urls ...string) impl.Folder {
	return impl.Folder{Name: name, Urls: urls}
}

// wideFolders has so many folders with so many Urls each.
func wideFolders(folders int, urls int) []impl.Folder {
	var l []impl.Folder
	for i := range folders {
		f := impl.Folder{Name: fmt.Sprintf("f%d", i)}
		for k := range urls {
			f.Urls = append(f.Urls, fmt.Sprintf("http://%02d.example/%d", k, i))
		}
		l = append(l, f)
	}
	return l
}

// quotesWith has so many marks, all quotes but for the one at a place, if it is one of them.
func quotesWith(place int, n int) string {
	marks := []byte(strings.Repeat(`"`, n))
	if place < n {
		marks[place] = '&'
	}
	return string(marks)
}

// longestFolders has the names and Urls whose escapes are longest, as far as they rise.
func longestFolders() []impl.Folder {
	var l []impl.Folder
	for i := range 4 {
		f := impl.Folder{Name: quotesWith(8-i, 8)}
		for k := range 3 {
			f.Urls = append(f.Urls, quotesWith(20-3*i-k, 20))
		}
		l = append(l, f)
	}
	return l
}

// randomFolders takes its names and Urls from so few that most of them are there.
func randomFolders(r *rand.Rand) []impl.Folder {
	var l []impl.Folder
	for range r.Intn(8) {
		url, name := fmt.Sprintf("u%d", r.Intn(14)), fmt.Sprintf("n%d", r.Intn(5))
		if next, ok := knownMoved(l, url, name); ok {
			l = next
		}
	}
	for i := range l {
		if r.Intn(4) == 0 {
			l[i].Urls = nil
		}
	}
	return l
}
