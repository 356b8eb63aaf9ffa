package tests

import (
	"encoding/binary"
	"encoding/hex"
	"math"
	"slices"
	"strings"
	"testing"

	"loop.example/g00569/impl"
)

func TestRotlTurnsEachBit(t *testing.T) {
	for bit := range int64(32) {
		for by := range int64(32) {
			want := int64(1) << ((bit + by) % 32)
			if got := impl.Rotl(1<<bit, by); got != want {
				t.Errorf("Rotl(1<<%d, %d) = %d, want %d", bit, by, got, want)
			}
		}
	}
}

func TestRotlThereAndBack(t *testing.T) {
	r := fixedRandom()
	for _, n := range append(randomWords(r, 200), edgeWords...) {
		if got := impl.Rotl(n, 0); got != n {
			t.Errorf("Rotl(%d, 0) = %d", n, got)
		}
		for by := int64(1); by <= 31; by++ {
			if got := impl.Rotl(impl.Rotl(n, by), 32-by); got != n {
				t.Errorf("%d turned by %d and on to 32 is %d", n, by, got)
			}
		}
	}
	for by := range int64(32) {
		if impl.Rotl(0, by) != 0 || impl.Rotl(maxWord, by) != maxWord {
			t.Errorf("a word of like bits is changed by a turn by %d", by)
		}
	}
}

func TestRotlRefuses(t *testing.T) {
	for _, n := range noWords {
		for _, by := range []int64{0, 1, 31, 32} {
			if got := impl.Rotl(n, by); got != -1 {
				t.Errorf("Rotl(%d, %d) = %d, want -1", n, by, got)
			}
		}
	}
	for _, by := range []int64{-1, 32, 33, 64, 1 << 32, math.MinInt64, math.MaxInt64} {
		for _, n := range edgeWords {
			if got := impl.Rotl(n, by); got != -1 {
				t.Errorf("Rotl(%d, %d) = %d, want -1", n, by, got)
			}
		}
	}
}

func TestLoadLeReadsTheLowestByteFirst(t *testing.T) {
	r := fixedRandom()
	for _, n := range []int{4, 8, 12, 64, 400, 3996, 4000} {
		s := randomText(r, n)
		l := impl.LoadLe(s)
		if len(l) != n/4 {
			t.Fatalf("%d bytes have %d words", n, len(l))
		}
		for i, got := range l {
			if want := int64(binary.LittleEndian.Uint32([]byte(s[4*i:]))); got != want {
				t.Errorf("word %d of %d bytes is %d, want %d", i, n, got, want)
			}
		}
	}
}

func TestTextsComeBackFromWords(t *testing.T) {
	r := fixedRandom()
	for n := 0; n <= impl.MaxText; n += 4 {
		s := randomText(r, n)
		if got := impl.StoreLe(impl.LoadLe(s)); got != s {
			t.Fatalf("a text of %d bytes does not come back", n)
		}
	}
}

func TestWordsComeBackFromBytes(t *testing.T) {
	r := fixedRandom()
	lists := [][]int64{nil, {}, edgeWords, randomWords(r, 1), randomWords(r, 999), randomWords(r, 1000)}
	for _, l := range lists {
		if got := impl.LoadLe(impl.StoreLe(l)); !slices.Equal(got, l) {
			t.Errorf("a list of %d words does not come back", len(l))
		}
	}
}

func TestLoadLeRefuses(t *testing.T) {
	for _, n := range []int{1, 2, 3, 5, 6, 7, 3999, 4001, 4002, 4003, 4004, 8000} {
		if got := impl.LoadLe(strings.Repeat("a", n)); len(got) != 0 {
			t.Errorf("%d bytes have %d words, want none", n, len(got))
		}
	}
}

func TestStoreLeRefuses(t *testing.T) {
	for _, n := range []int{1001, 1002, 4000} {
		if got := impl.StoreLe(make([]int64, n)); got != "" {
			t.Errorf("%d words have %d bytes, want none", n, len(got))
		}
	}
	for _, bad := range noWords {
		for place := range 3 {
			l := []int64{1, 2, 3}
			l[place] = bad
			if got := impl.StoreLe(l); got != "" {
				t.Errorf("StoreLe(%d) = %q, want nothing", l, got)
			}
		}
		long := make([]int64, 1000)
		long[999] = bad
		if got := impl.StoreLe(long); got != "" {
			t.Errorf("%d in the last of 1000 places is taken", bad)
		}
	}
}

func TestHexOfEachByte(t *testing.T) {
	for c := range 256 {
		s := string([]byte{byte(c)})
		digits := hex.EncodeToString([]byte{byte(c)})
		if got := impl.Hex(s); got != digits {
			t.Errorf("Hex(%q) = %q, want %q", s, got, digits)
		}
		if got, ok := impl.Unhex(digits); !ok || got != s {
			t.Errorf("Unhex(%q) = %q, %t", digits, got, ok)
		}
	}
}

func TestTextsComeBackFromDigits(t *testing.T) {
	r := fixedRandom()
	for _, n := range []int{0, 1, 2, 3, 63, 64, 1000, 3999, 4000} {
		s := randomText(r, n)
		digits := impl.Hex(s)
		if digits != hex.EncodeToString([]byte(s)) {
			t.Errorf("other digits for %d bytes", n)
		}
		if got, ok := impl.Unhex(digits); !ok || got != s {
			t.Errorf("a text of %d bytes does not come back: %t", n, ok)
		}
	}
}

func TestHexRefuses(t *testing.T) {
	for _, n := range []int{4001, 8000} {
		if got := impl.Hex(strings.Repeat("a", n)); got != "" {
			t.Errorf("%d bytes have %d digits, want none", n, len(got))
		}
	}
}

func TestUnhexRefuses(t *testing.T) {
	bad := []string{"0", "abc", "AB", "aB", "0x", "0g", "g0", " 0", "0 ", "00\n0", "-1"}
	for _, n := range []int{7999, 8001, 8002, 16000} {
		bad = append(bad, strings.Repeat("0", n))
	}
	bad = append(bad, strings.Repeat("0", 7999)+"g")
	for _, s := range bad {
		if got, ok := impl.Unhex(s); ok || got != "" {
			t.Errorf("Unhex of %d digits that are not right = %q, %t", len(s), got, ok)
		}
	}
}

func TestUnhexTakesJustItsDigits(t *testing.T) {
	for c := range 256 {
		want := strings.IndexByte("0123456789abcdef", byte(c)) >= 0
		for _, s := range []string{string([]byte{byte(c), '0'}), string([]byte{'0', byte(c)}), string([]byte{'1', 'f', byte(c), 'a'})} {
			if got, ok := impl.Unhex(s); ok != want || !ok && got != "" {
				t.Errorf("Unhex(%q) = %q, %t, want %t", s, got, ok, want)
			}
		}
	}
}

func TestXorByteByByte(t *testing.T) {
	for a := range 256 {
		for b := range 256 {
			got := impl.Xor(string([]byte{byte(a), 7}), string([]byte{byte(b), 7}))
			if want := string([]byte{byte(a ^ b), 0}); got != want {
				t.Fatalf("Xor of %d and %d = %q, want %q", a, b, got, want)
			}
		}
	}
}

func TestXorTwice(t *testing.T) {
	r := fixedRandom()
	for _, n := range []int{0, 1, 2, 64, 65, 3999, 4000} {
		a, b := randomText(r, n), randomText(r, n)
		once := impl.Xor(a, b)
		if len(once) != n || impl.Xor(once, b) != a || impl.Xor(b, a) != once {
			t.Errorf("two texts of %d bytes do not come back", n)
		}
		if impl.Xor(a, a) != zeros(n) || impl.Xor(a, zeros(n)) != a {
			t.Errorf("a text of %d bytes with itself, or with noughts", n)
		}
	}
}

func TestXorRefuses(t *testing.T) {
	pairs := [][2]int{{0, 1}, {1, 0}, {2, 1}, {3999, 4000}, {4000, 4001}, {4001, 4000}, {4001, 4001}, {8000, 8000}}
	for _, p := range pairs {
		if got := impl.Xor(strings.Repeat("a", p[0]), strings.Repeat("b", p[1])); got != "" {
			t.Errorf("Xor of %d and %d bytes has %d, want none", p[0], p[1], len(got))
		}
	}
}

func TestWordsLeaveTheirArgumentsAlone(t *testing.T) {
	l, check := withRoom(t, []int64{1, maxWord, 3})
	first := impl.StoreLe(l)
	check()
	if impl.StoreLe(l) != first {
		t.Error("StoreLe answers twice in two ways")
	}
	s := "\x01\x00\x00\x00\x02\x00\x00\x00"
	spoil(impl.LoadLe(s))
	if got := impl.LoadLe(s); !slices.Equal(got, []int64{1, 2}) {
		t.Errorf("an answer that was written into is given again: %d", got)
	}
}
