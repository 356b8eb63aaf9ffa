package tests

import (
	"encoding/hex"
	"fmt"
	"math"
	"regexp"
	"strconv"
	"strings"
	"sync"
	"testing"

	"loop.example/g00569/impl"
)

const (
	slotSalt  = "salt salt salt s"
	slotNonce = "nonce nonce "
)

var (
	slotForm   = regexp.MustCompile(`\A([1-9]|[1-4][0-9]|50) ([0-9a-f]{32}) ([0-9a-f]{24}) ([0-9a-f]{96})\z`)
	noRounds   = []int64{0, 51, -1, 52, 256, 257, 1<<32 + 1, math.MinInt64, math.MaxInt64}
	someRounds = []int64{1, 2, 3, 49, 50}
)

// A wrapping has what one call of SlotOf takes.
type wrapping struct {
	pass   string
	salt   string
	rounds int64
	nonce  string
	key    string
}

// slotKey is a key of any length, of which 32 are right.
func slotKey(n int) string {
	return countingFrom(100, n)
}

func rightWrapping() wrapping {
	return wrapping{"pass", slotSalt, 3, slotNonce, slotKey(32)}
}

// forged makes the slot without asking whether it is right; its box can be opened, whatever has a wrong length.
func (w wrapping) forged(t *testing.T) impl.Slot {
	t.Helper()
	beside := w.salt + string([]byte{byte(w.rounds)})
	box := impl.Sealed(knownStretch(t, w.pass, w.salt, int(w.rounds)), w.nonce, beside, w.key)
	return impl.Slot{Salt: w.salt, Rounds: w.rounds, Nonce: w.nonce, Box: box}
}

func (w wrapping) slot() (impl.Slot, bool) {
	return impl.SlotOf(w.pass, w.salt, w.rounds, w.nonce, w.key)
}

func checkSlot(t *testing.T, w wrapping, why string) impl.Slot {
	t.Helper()
	want := w.forged(t)
	got, ok := w.slot()
	if !ok || got != want || len(got.Box) != 48 {
		t.Errorf("%s: %+v, %t, want %+v", why, got, ok, want)
	}
	checkKeyIn(t, got, w.pass, w.key, why)
	return got
}

func checkNoSlot(t *testing.T, w wrapping, why string) {
	t.Helper()
	if got, ok := w.slot(); ok || got != (impl.Slot{}) {
		t.Errorf("%s: %+v, %t", why, got, ok)
	}
}

func checkKeyIn(t *testing.T, s impl.Slot, pass string, want string, why string) {
	t.Helper()
	if got, ok := impl.KeyIn(s, pass); !ok || got != want {
		t.Errorf("%s: the key is %q, %t, want %q", why, got, ok, want)
	}
}

func checkNoKeyIn(t *testing.T, s impl.Slot, pass string, why string) {
	t.Helper()
	if got, ok := impl.KeyIn(s, pass); ok || got != "" {
		t.Errorf("%s: the key is %q, %t", why, got, ok)
	}
}

func knownSlotText(s impl.Slot) string {
	return fmt.Sprintf("%d %x %x %x", s.Rounds, s.Salt, s.Nonce, s.Box)
}

// knownReadSlot asks a pattern and the library's digits.
func knownReadSlot(s string) (impl.Slot, bool) {
	m := slotForm.FindStringSubmatch(s)
	if m == nil {
		return impl.Slot{}, false
	}
	rounds, _ := strconv.ParseInt(m[1], 10, 64)
	var parts [3]string
	for i := range parts {
		b, _ := hex.DecodeString(m[2+i])
		parts[i] = string(b)
	}
	return impl.Slot{Salt: parts[0], Rounds: rounds, Nonce: parts[1], Box: parts[2]}, true
}

func checkReadSlot(t *testing.T, s string) {
	t.Helper()
	want, can := knownReadSlot(s)
	if got, ok := impl.ReadSlot(s); ok != can || got != want {
		t.Errorf("ReadSlot(%q) = %+v, %t, want %+v, %t", s, got, ok, want, can)
	}
}

func checkNoSlotText(t *testing.T, s string, why string) {
	t.Helper()
	if got, ok := impl.ReadSlot(s); ok || got != (impl.Slot{}) {
		t.Errorf("%s: ReadSlot(%q) = %+v, %t", why, s, got, ok)
	}
}

// The texts are those that Python's hashlib and its package cryptography make of the same arguments.
func TestSlotsAreThoseOfOthers(t *testing.T) {
	rows := []struct {
		w    wrapping
		text string
	}{
		{wrapping{"pass", slotSalt, 3, slotNonce, countingFrom(0, 32)}, "3 73616c742073616c742073616c742073 6e6f6e6365206e6f6e636520 d2f966a59e5125ffd2561ef6983d86f4c9deb3b9436854de3dcdbac96f495cb3921b63716eefa1ae703582c435ea8efe"},
		{wrapping{"", zeros(16), 1, zeros(12), zeros(32)}, "1 00000000000000000000000000000000 000000000000000000000000 e345298946a7b625bf130ceaba34023b50044f6ef05e1e7c2f8c885f8ab7ed955188969d15a5b4594c34d97d73a80a39"},
		{wrapping{strings.Repeat("w", 100), countingFrom(240, 16), 50, countingFrom(0, 12), reversedBytes(224)}, "50 f0f1f2f3f4f5f6f7f8f9fafbfcfdfeff 000102030405060708090a0b 9f3482f5f0b62979af845ebc646f46dea6e9649bbc72d6028cb223ea63b6884ed1eaed3930d7095c51926e8539475db3"},
	}
	for _, row := range rows {
		s := checkSlot(t, row.w, "a slot")
		if got := impl.SlotText(s); got != row.text {
			t.Errorf("SlotText = %q, want %q", got, row.text)
		}
		if got, ok := impl.ReadSlot(row.text); !ok || got != s {
			t.Errorf("ReadSlot(%q) = %+v, %t", row.text, got, ok)
		}
	}
}

// reversedBytes has the 32 bytes from last on, the highest first.
func reversedBytes(last byte) string {
	b := []byte(countingFrom(last, 32))
	for i := range 16 {
		b[i], b[31-i] = b[31-i], b[i]
	}
	return string(b)
}

func TestSlotsAtTheirLimits(t *testing.T) {
	for _, n := range []int{0, 1, 32, 63, 64, 65, 99, 100} {
		w := rightWrapping()
		w.pass = countedText(n)
		checkSlot(t, w, fmt.Sprintf("a word of %d bytes", n))
	}
	for rounds := int64(1); rounds <= 50; rounds++ {
		w := rightWrapping()
		w.rounds = rounds
		checkSlot(t, w, fmt.Sprintf("%d rounds", rounds))
	}
}

func TestSlotsWithWhateverBytes(t *testing.T) {
	r := fixedRandom()
	for range 200 {
		w := wrapping{randomText(r, r.Intn(101)), randomText(r, 16), 1 + r.Int63n(50), randomText(r, 12), randomText(r, 32)}
		s := checkSlot(t, w, "a slot")
		checkNoKeyIn(t, s, w.pass+"x", "another word")
		checkReadSlot(t, impl.SlotText(s))
	}
}

func TestSlotOfRefuses(t *testing.T) {
	for _, n := range []int{101, 102, 1000, 1001, 5000} {
		w := rightWrapping()
		w.pass = strings.Repeat("p", n)
		checkNoSlot(t, w, fmt.Sprintf("a word of %d bytes", n))
	}
	for _, n := range []int{0, 1, 15, 17, 32, 1000, 1001} {
		w := rightWrapping()
		w.salt = strings.Repeat("s", n)
		checkNoSlot(t, w, fmt.Sprintf("a salt of %d bytes", n))
	}
	for _, rounds := range noRounds {
		w := rightWrapping()
		w.rounds = rounds
		checkNoSlot(t, w, fmt.Sprintf("%d rounds", rounds))
	}
	for _, n := range []int{0, 1, 11, 13, 24} {
		w := rightWrapping()
		w.nonce = strings.Repeat("n", n)
		checkNoSlot(t, w, fmt.Sprintf("a nonce of %d bytes", n))
	}
	for _, n := range []int{0, 1, 16, 31, 33, 64, 4000, 4001} {
		w := rightWrapping()
		w.key = countedText(n)
		checkNoSlot(t, w, fmt.Sprintf("a key of %d bytes", n))
	}
}

func TestWhoDoesNotKnowTheWord(t *testing.T) {
	w := rightWrapping()
	s := checkSlot(t, w, "a slot")
	for _, pass := range []string{"", "p", "pas", "passs", "Pass", "pass ", " pass", "pas\x00", "word", slotSalt, w.key, strings.Repeat("p", 100), strings.Repeat("p", 101), strings.Repeat("p", 1001)} {
		checkNoKeyIn(t, s, pass, fmt.Sprintf("the word %q", pass))
	}
	for bit := range 8 * len(w.pass) {
		checkNoKeyIn(t, s, turned(w.pass, bit), "a bit of the word is turned")
	}
}

// A slot whose parts have other lengths, or whose word is too long, is refused although its box can be opened.
func TestSlotsThatAreNotSo(t *testing.T) {
	check := func(why string, change func(*wrapping)) {
		t.Helper()
		w := rightWrapping()
		change(&w)
		s := w.forged(t)
		beside := w.salt + string([]byte{byte(w.rounds)})
		if _, opens := impl.Opened(knownStretch(t, w.pass, w.salt, int(w.rounds)), w.nonce, beside, s.Box); !opens {
			t.Fatalf("%s: the box can not be opened", why)
		}
		checkNoKeyIn(t, s, w.pass, why)
		next, ok := impl.Rewrapped(s, w.pass, "word", slotSalt, slotNonce)
		if ok || next != (impl.Slot{}) {
			t.Errorf("%s: wrapped anew as %+v, %t", why, next, ok)
		}
		if len(w.pass) <= 100 && impl.SlotText(s) != "" {
			t.Errorf("%s: %q", why, impl.SlotText(s))
		}
		if len(w.pass) <= 100 {
			checkNoSlotText(t, knownSlotText(s), why)
		}
	}
	check("a word of 101 bytes", func(w *wrapping) { w.pass = strings.Repeat("p", 101) })
	check("a word of 1000 bytes", func(w *wrapping) { w.pass = strings.Repeat("p", 1000) })
	for _, n := range []int{0, 15, 17, 900} {
		check(fmt.Sprintf("a salt of %d bytes", n), func(w *wrapping) { w.salt = strings.Repeat("s", n) })
	}
	for _, n := range []int{0, 31, 33, 64, 1000} {
		check(fmt.Sprintf("a box of %d bytes", n+16), func(w *wrapping) { w.key = countedText(n) })
	}
	check("51 rounds", func(w *wrapping) { w.rounds = 51 })
	check("256 and 3 rounds", func(w *wrapping) { w.rounds = 259 })
}

func TestSlotsWithWrongParts(t *testing.T) {
	right := checkSlot(t, rightWrapping(), "a slot")
	check := func(why string, change func(*impl.Slot)) {
		t.Helper()
		s := right
		change(&s)
		checkNoKeyIn(t, s, "pass", why)
		if got := impl.SlotText(s); got != "" {
			t.Errorf("%s: %q", why, got)
		}
		checkNoSlotText(t, knownSlotText(s), why)
	}
	check("the zero value", func(s *impl.Slot) { *s = impl.Slot{} })
	for _, rounds := range noRounds {
		check(fmt.Sprintf("%d rounds", rounds), func(s *impl.Slot) { s.Rounds = rounds })
	}
	for _, n := range []int{0, 1, 15, 17, 4001} {
		check(fmt.Sprintf("a salt of %d bytes", n), func(s *impl.Slot) { s.Salt = strings.Repeat("s", n) })
	}
	for _, n := range []int{0, 1, 11, 13, 4001} {
		check(fmt.Sprintf("a nonce of %d bytes", n), func(s *impl.Slot) { s.Nonce = strings.Repeat("n", n) })
	}
	for _, n := range []int{0, 15, 16, 47, 49, 96, 4001} {
		check(fmt.Sprintf("a box of %d bytes", n), func(s *impl.Slot) { s.Box = strings.Repeat("b", n) })
	}
	check("a box cut off", func(s *impl.Slot) { s.Box = s.Box[:47] })
	check("a byte behind the box", func(s *impl.Slot) { s.Box += "\x00" })
}

// A bit is turned in each part of a slot; the word is the same.
func TestSlotsWithABitTurned(t *testing.T) {
	for _, rounds := range []int64{1, 3, 50} {
		w := rightWrapping()
		w.rounds = rounds
		right := checkSlot(t, w, "a slot")
		for bit := range 8 * 48 {
			s := right
			if s.Box = turned(right.Box, bit); bit < 8*16 {
				checkNoKeyIn(t, impl.Slot{Salt: turned(right.Salt, bit), Rounds: rounds, Nonce: right.Nonce, Box: right.Box}, w.pass, "a bit of the salt")
			}
			if bit < 8*12 {
				checkNoKeyIn(t, impl.Slot{Salt: right.Salt, Rounds: rounds, Nonce: turned(right.Nonce, bit), Box: right.Box}, w.pass, "a bit of the nonce")
			}
			checkNoKeyIn(t, s, w.pass, "a bit of the box")
			if _, ok := impl.Rewrapped(s, w.pass, "word", slotSalt, slotNonce); ok {
				t.Errorf("bit %d of the box: wrapped anew", bit)
			}
			checkReadSlot(t, knownSlotText(s))
		}
		for other := int64(1); other <= 50; other++ {
			if s := right; other != rounds {
				s.Rounds = other
				checkNoKeyIn(t, s, w.pass, "other rounds")
			}
		}
	}
}

// What stands beside the key is bound to it: salt and rounds, in this order, and nothing else.
func TestWhatStandsBesideTheKey(t *testing.T) {
	w := rightWrapping()
	right := checkSlot(t, w, "a slot")
	for _, beside := range []string{"", w.salt, w.salt + "\x02", w.salt + "3", "\x03" + w.salt, w.salt + "\x03\x00", w.salt + w.nonce + "\x03"} {
		s := right
		s.Box = impl.Sealed(impl.Stretched(w.pass, w.salt, w.rounds), w.nonce, beside, w.key)
		checkNoKeyIn(t, s, w.pass, fmt.Sprintf("beside %q", beside))
	}
	for _, key := range []string{impl.Stretched(w.salt, w.pass, w.rounds), impl.Stretched(w.pass, w.salt, 1), impl.Stretched(w.pass, w.nonce, w.rounds), w.key} {
		s := right
		s.Box = impl.Sealed(key, w.nonce, w.salt+"\x03", w.key)
		checkNoKeyIn(t, s, w.pass, "another key around it")
	}
}

// Behind a change of the word the key is there for who knows the new one, and for nobody else.
func TestChangesOfTheWord(t *testing.T) {
	for _, rounds := range someRounds {
		for _, n := range []int{0, 1, 64, 65, 99, 100} {
			w := rightWrapping()
			w.rounds = rounds
			s := checkSlot(t, w, "a slot")
			next := w
			next.pass, next.salt, next.nonce = strings.Repeat("q", n), "SALT SALT SALT S", "NONCE NONCE "
			got, ok := impl.Rewrapped(s, w.pass, next.pass, next.salt, next.nonce)
			if !ok || got != next.forged(t) {
				t.Errorf("%d rounds, a word of %d bytes: %+v, %t", rounds, n, got, ok)
			}
			checkKeyIn(t, got, next.pass, w.key, "the new word")
			checkNoKeyIn(t, got, w.pass, "the old word")
			checkKeyIn(t, s, w.pass, w.key, "the old slot")
		}
	}
}

func TestManyChangesOfTheWord(t *testing.T) {
	r := fixedRandom()
	for range 20 {
		w := wrapping{randomText(r, 20), randomText(r, 16), 1 + r.Int63n(50), randomText(r, 12), randomText(r, 32)}
		s := checkSlot(t, w, "a slot")
		for range 6 {
			next := w
			next.pass, next.salt, next.nonce = randomText(r, 1+r.Intn(100)), randomText(r, 16), randomText(r, 12)
			got, ok := impl.Rewrapped(s, w.pass, next.pass, next.salt, next.nonce)
			if !ok || got != next.forged(t) {
				t.Errorf("%+v, %t", got, ok)
			}
			checkNoKeyIn(t, got, w.pass, "the old word")
			s, w = got, next
			checkKeyIn(t, s, w.pass, w.key, "the new word")
		}
	}
}

func TestTheSameWordAgain(t *testing.T) {
	w := rightWrapping()
	s := checkSlot(t, w, "a slot")
	if got, ok := impl.Rewrapped(s, w.pass, w.pass, w.salt, w.nonce); !ok || got != s {
		t.Errorf("nothing is changed: %+v, %t", got, ok)
	}
}

func TestRewrappedRefuses(t *testing.T) {
	s := checkSlot(t, rightWrapping(), "a slot")
	check := func(why string, s impl.Slot, old string, pass string, salt string, nonce string) {
		t.Helper()
		if got, ok := impl.Rewrapped(s, old, pass, salt, nonce); ok || got != (impl.Slot{}) {
			t.Errorf("%s: %+v, %t", why, got, ok)
		}
	}
	for _, old := range []string{"", "word", "pas", strings.Repeat("p", 100), strings.Repeat("p", 101)} {
		check("another word", s, old, "word", slotSalt, slotNonce)
	}
	for _, n := range []int{101, 102, 1000, 1001} {
		check("a new word that is too long", s, "pass", strings.Repeat("w", n), slotSalt, slotNonce)
	}
	for _, n := range []int{0, 15, 17, 1001} {
		check("a salt", s, "pass", "word", strings.Repeat("s", n), slotNonce)
	}
	for _, n := range []int{0, 11, 13} {
		check("a nonce", s, "pass", "word", slotSalt, strings.Repeat("n", n))
	}
	check("the zero value", impl.Slot{}, "", "word", slotSalt, slotNonce)
}

func TestSlotTextAsTheDocumentSays(t *testing.T) {
	s := impl.Slot{Salt: "\x00\x01\x0a\x10salt salt s\xff", Rounds: 7, Nonce: "\xab" + zeros(10) + "\x0f", Box: strings.Repeat("\xfe\x00", 24)}
	want := "7 00010a1073616c742073616c742073ff ab000000000000000000000f " + strings.Repeat("fe00", 24)
	if got := impl.SlotText(s); got != want {
		t.Errorf("SlotText = %q, want %q", got, want)
	}
	if got, ok := impl.ReadSlot(want); !ok || got != s {
		t.Errorf("ReadSlot = %+v, %t", got, ok)
	}
	for rounds := int64(1); rounds <= 50; rounds++ {
		s.Rounds = rounds
		if got := impl.SlotText(s); got != knownSlotText(s) || !strings.HasPrefix(got, fmt.Sprintf("%d 0001", rounds)) {
			t.Errorf("%d rounds: %q", rounds, got)
		}
		if got, ok := impl.ReadSlot(knownSlotText(s)); !ok || got != s {
			t.Errorf("%d rounds: %+v, %t", rounds, got, ok)
		}
	}
}

func TestSlotTextsWrittenInAnotherWay(t *testing.T) {
	s := checkSlot(t, rightWrapping(), "a slot")
	salt, nonce, box := digitsOf(s.Salt), digitsOf(s.Nonce), digitsOf(s.Box)
	behind := " " + salt + " " + nonce + " " + box
	for _, rounds := range []string{"", "0", "03", "003", "00000000000003", "+3", "-3", " 3", "3 ", "3.0", "0x3", "3e0", "three", "51", "100", "259", "4294967299", "18446744073709551619", "9223372036854775811", "3 3", "\xd9\xa3"} {
		checkNoSlotText(t, rounds+behind, "rounds")
	}
	for _, blank := range []string{"", "  ", "\t", "\n", ",", "-", "\x00", " \n"} {
		checkNoSlotText(t, "3"+blank+salt+" "+nonce+" "+box, "another blank")
		checkNoSlotText(t, "3 "+salt+blank+nonce+" "+box, "another blank")
		checkNoSlotText(t, "3 "+salt+" "+nonce+blank+box, "another blank")
	}
	for _, more := range []string{" ", "\n", "0", "00", "x", " 00", " " + box, "\x00", "\r\n"} {
		checkNoSlotText(t, "3"+behind+more, "something behind")
		checkNoSlotText(t, more+"3"+behind, "something ahead")
	}
	for _, s := range []string{"3 " + strings.ToUpper(salt) + " " + nonce + " " + box, "3 " + salt + " " + strings.ToUpper(nonce) + " " + box, "3 " + salt + " " + nonce + " " + strings.ToUpper(box)} {
		checkNoSlotText(t, s, "capital digits")
	}
	for _, s := range []string{"", " ", "3", "3 ", "3 " + salt, "3 " + salt + " " + nonce, "3 " + salt + " " + nonce + " ", behind, behind[1:], "3 " + nonce + " " + salt + " " + box, "3   ", "   ", salt + " " + nonce + " " + box + " 3"} {
		checkNoSlotText(t, s, "parts that lack")
	}
	for _, n := range []int{4000, 4001, 8000, 8002, 1 << 20} {
		checkNoSlotText(t, "3 "+salt+" "+nonce+" "+strings.Repeat("0", n), "too long")
		checkNoSlotText(t, strings.Repeat("3", n)+behind, "too long")
		checkNoSlotText(t, "3"+behind+strings.Repeat(" ", n), "too long")
	}
}

// A text is read when it is that of a slot, and in no other spelling.
func TestSlotsHaveOneText(t *testing.T) {
	for _, rounds := range []int64{3, 47, 50} {
		w := rightWrapping()
		w.rounds = rounds
		s := knownSlotText(checkSlot(t, w, "a slot"))
		checkReadSlot(t, s)
		for _, other := range otherTexts(s) {
			checkReadSlot(t, other)
		}
		for i := range len(s) {
			for c := range 256 {
				b := string([]byte{byte(c)})
				checkReadSlot(t, s[:i]+b+s[i+1:])
			}
		}
	}
}

func TestSlotsAtTheSameTime(t *testing.T) {
	w := rightWrapping()
	want := w.forged(t)
	var group sync.WaitGroup
	for range 8 {
		group.Go(func() {
			for range 20 {
				s, ok := w.slot()
				key, opened := impl.KeyIn(s, w.pass)
				if !ok || s != want || !opened || key != w.key {
					t.Error("the same arguments have another answer")
				}
			}
		})
	}
	group.Wait()
}
