package tests

import (
	"crypto/hkdf"
	"crypto/hmac"
	"crypto/pbkdf2"
	"crypto/sha256"
	"math"
	"strings"
	"testing"

	"loop.example/g00569/impl"
)

func knownHmac(key string, text string) string {
	h := hmac.New(sha256.New, []byte(key))
	h.Write([]byte(text))
	return string(h.Sum(nil))
}

func knownExpand(t *testing.T, key string, info string, n int) string {
	t.Helper()
	b, err := hkdf.Expand(sha256.New, []byte(key), info, n)
	if err != nil {
		t.Fatal(err)
	}
	return string(b)
}

func knownStretch(t *testing.T, pass string, salt string, rounds int) string {
	t.Helper()
	b, err := pbkdf2.Key(sha256.New, pass, []byte(salt), rounds, 32)
	if err != nil {
		t.Fatal(err)
	}
	return string(b)
}

// countingFrom has n bytes, each one more than the one ahead.
func countingFrom(first byte, n int) string {
	b := make([]byte, n)
	for i := range b {
		b[i] = first + byte(i)
	}
	return string(b)
}

func TestHmacOfTheStandard(t *testing.T) {
	long := strings.Repeat("\xaa", 131)
	rows := [][3]string{
		{strings.Repeat("\x0b", 20), "Hi There", "b0344c61d8db38535ca8afceaf0bf12b881dc200c9833da726e9376c2e32cff7"},
		{"Jefe", "what do ya want for nothing?", "5bdcc146bf60754e6a042426089575c75a003f089d2739839dec58b964ec3843"},
		{long[:20], strings.Repeat("\xdd", 50), "773ea91e36800e46854db8ebd09181a72959098b3ef8c122d9635514ced565fe"},
		{countingFrom(1, 25), strings.Repeat("\xcd", 50), "82558a389a443c0ea4cc819899f2083a85f0faa3e578f8077a2e3ff46729665b"},
		{long, "Test Using Larger Than Block-Size Key - Hash Key First", "60e431591ee0b67f0d8a26aacbf5b77f8e0bc6213728c5140546040f0ee37f54"},
		{long, "This is a test using a larger than block-size key and a larger than block-size data. The key needs to be hashed before being used by the HMAC algorithm.", "9b09ffa71b942fcb27635fbcd5b0e944bfdc63644f0713938a7f51535c3a35e2"},
	}
	for _, row := range rows {
		if got := digitsOf(impl.Hmac(row[0], row[1])); got != row[2] {
			t.Errorf("Hmac(%x, %q) = %s, want %s", row[0], row[1], got, row[2])
		}
	}
}

func TestHmacOfEachLength(t *testing.T) {
	r := fixedRandom()
	for _, k := range []int{0, 1, 31, 32, 33, 55, 56, 63, 64, 65, 119, 120, 128, 3999, 4000} {
		for _, n := range []int{0, 1, 23, 24, 55, 56, 63, 64, 65, 3935, 3936, 3937, 3999, 4000} {
			key, text := randomText(r, k), randomText(r, n)
			if impl.Hmac(key, text) != knownHmac(key, text) {
				t.Errorf("another Hmac of a key of %d and %d bytes", k, n)
			}
		}
	}
}

func TestAKeyThatIsTooLongIsItsDigest(t *testing.T) {
	r := fixedRandom()
	for _, n := range []int{65, 66, 128, 1000, 3999, 4000} {
		for _, text := range []string{"", "a", randomText(r, 4000)} {
			key := randomText(r, n)
			if impl.Hmac(key, text) != impl.Hmac(impl.Sha256(key), text) {
				t.Errorf("a key of %d bytes is not its digest", n)
			}
		}
	}
	for _, n := range []int{0, 1, 32, 63, 64} {
		key := randomText(r, n)
		if impl.Hmac(key, "a") == impl.Hmac(impl.Sha256(key), "a") {
			t.Errorf("a key of %d bytes, which is not too long, is its digest", n)
		}
	}
}

func TestNoughtsBehindAShortKeyChangeNothing(t *testing.T) {
	r := fixedRandom()
	for _, n := range []int{0, 1, 31, 32, 33, 62, 63} {
		key, text := randomText(r, n), randomText(r, 100)
		want := impl.Hmac(key, text)
		for room := 1; n+room <= 64; room++ {
			if len(want) != 32 || impl.Hmac(key+zeros(room), text) != want {
				t.Errorf("%d noughts behind a key of %d bytes change something", room, n)
			}
		}
		if impl.Hmac(key+zeros(65-n), text) == want {
			t.Errorf("a key of %d bytes, with noughts too long for a block, is the same", n)
		}
	}
	if key := "a key"; impl.Hmac("\x00"+key, "a") == impl.Hmac(key, "a") {
		t.Error("noughts ahead of a key change nothing")
	}
}

func TestHmacRefuses(t *testing.T) {
	for _, p := range [][2]int{{4001, 0}, {0, 4001}, {4001, 4000}, {4000, 4001}, {4001, 4001}, {8000, 1}, {1, 8000}} {
		if got := impl.Hmac(zeros(p[0]), zeros(p[1])); got != "" {
			t.Errorf("Hmac of a key of %d and %d bytes has %d, want none", p[0], p[1], len(got))
		}
	}
}

func TestExpandOfTheStandard(t *testing.T) {
	rows := [][3]string{
		{"077709362c2e32df0ddc3f0dc47bba6390b6c73bb50f9c3122ec844ad7c2b3e5", countingFrom(0xf0, 10), "3cb25f25faacd57a90434f64d0362f2a2d2d0a90cf1a5a4c5db02d56ecc4c5bf34007208d5b887185865"},
		{"06a6b88c5853361a06104c9ceb35b45cef760014904671014a193f40c15fc244", countingFrom(0xb0, 80), "b11e398dc80327a1c8e7f78c596a49344f012eda2d4efad8a050cc4c19afa97c59045a99cac7827271cb41c65e590e09da3275600c2f09b8367793a9aca3db71cc30c58179ec3e87c14c01d5c1f3434f1d87"},
		{"19ef24a32c717b167f33a91d6f648bdf96596776afdb6377ac434c1c293ccb04", "", "8da4e775a563c18f715f802a063c5a31b8a11f5c5ee1879ec3454e5f3c738d2d9d201395faa4b61a96c8"},
	}
	for _, row := range rows {
		if got := digitsOf(impl.Expand(bytesOf(t, row[0]), row[1], int64(len(row[2])/2))); got != row[2] {
			t.Errorf("Expand(%s, %x) = %s, want %s", row[0], row[1], got, row[2])
		}
	}
}

func TestExpandOfEachLength(t *testing.T) {
	r := fixedRandom()
	for _, k := range []int{0, 1, 32, 64, 65, 3999, 4000} {
		for _, i := range []int{0, 1, 23, 24, 999, 1000} {
			key, info := randomText(r, k), randomText(r, i)
			for _, n := range []int{0, 1, 31, 32, 33, 63, 64, 65, 992, 993, 999, 1000} {
				if got := impl.Expand(key, info, int64(n)); got != knownExpand(t, key, info, n) {
					t.Errorf("a key of %d and an info of %d, expanded to %d: another text, of %d", k, i, n, len(got))
				}
			}
		}
	}
}

func TestLessIsTheBeginningOfMore(t *testing.T) {
	for _, info := range []string{"", "info", countedText(1000)} {
		most := impl.Expand("a key", info, 1000)
		if len(most) != 1000 {
			t.Fatalf("expanded to 1000: %d bytes", len(most))
		}
		for n := range 1000 {
			if got := impl.Expand("a key", info, int64(n)); got != most[:n] {
				t.Errorf("an info of %d, expanded to %d, is not the beginning of more", len(info), n)
			}
		}
	}
}

// The parts are made of one another, so that each one is told from the one ahead alone.
func TestExpandIsOnePartBehindTheOther(t *testing.T) {
	key, info := countedText(40), "info"
	all := impl.Expand(key, info, 1000)
	last, parts := "", ""
	for n := byte(1); len(parts) < len(all); n++ {
		last = impl.Hmac(key, last+info+string([]byte{n}))
		parts += last
	}
	if len(all) != 1000 || parts[:1000] != all {
		t.Errorf("%d bytes are not the parts one behind the other", len(all))
	}
}

func TestExpandRefuses(t *testing.T) {
	for _, n := range []int64{-1, 1001, 1024, 8160, 1 << 32, 1<<32 + 1, math.MinInt64, math.MaxInt64} {
		for _, info := range []string{"", zeros(1000)} {
			if got := impl.Expand("key", info, n); got != "" {
				t.Errorf("expanded to %d: %d bytes, want none", n, len(got))
			}
		}
	}
	for _, p := range [][2]int{{4001, 0}, {8000, 1000}, {0, 1001}, {4000, 1001}, {4001, 1001}, {32, 4000}} {
		if got := impl.Expand(zeros(p[0]), zeros(p[1]), 32); got != "" {
			t.Errorf("a key of %d and an info of %d: %d bytes, want none", p[0], p[1], len(got))
		}
	}
}

func TestStretchedOfTheStandard(t *testing.T) {
	rows := []struct {
		pass, salt string
		rounds     int64
		want       string
	}{
		{"passwd", "salt", 1, "55ac046e56e3089fec1691c22544b605f94185216dde0465e68b9d57c20dacbc"},
		{"password", "salt", 1, "120fb6cffcf8b32c43e7225256c4f837a86548c92ccc35480805987cb70be17b"},
		{"password", "salt", 2, "ae4d0c95af6b46d32d0adff928f06dd02a303f8ef3c251dfd6e2d85a95474c43"},
	}
	for _, row := range rows {
		if got := digitsOf(impl.Stretched(row.pass, row.salt, row.rounds)); got != row.want {
			t.Errorf("Stretched(%q, %q, %d) = %s, want %s", row.pass, row.salt, row.rounds, got, row.want)
		}
	}
}

func TestStretchedOfEachNumberOfRounds(t *testing.T) {
	for rounds := 1; rounds <= 50; rounds++ {
		if got := impl.Stretched("a pass", "a salt", int64(rounds)); got != knownStretch(t, "a pass", "a salt", rounds) {
			t.Errorf("%d rounds make another text, of %d", rounds, len(got))
		}
	}
}

func TestStretchedOfEachLength(t *testing.T) {
	r := fixedRandom()
	for _, p := range []int{0, 1, 63, 64, 65, 999, 1000} {
		for _, s := range []int{0, 1, 16, 51, 52, 999, 1000} {
			pass, salt := randomText(r, p), randomText(r, s)
			for _, rounds := range []int{1, 2, 50} {
				if got := impl.Stretched(pass, salt, int64(rounds)); got != knownStretch(t, pass, salt, rounds) {
					t.Errorf("a pass of %d and a salt of %d in %d rounds: another text, of %d", p, s, rounds, len(got))
				}
			}
		}
	}
}

func TestStretchedTakesAPassAsAKey(t *testing.T) {
	long := countedText(1000)
	for _, rounds := range []int64{1, 2, 50} {
		if got := impl.Stretched(long, "salt", rounds); len(got) != 32 || got != impl.Stretched(impl.Sha256(long), "salt", rounds) {
			t.Errorf("%d rounds: a pass that is too long is not its digest", rounds)
		}
		if got := impl.Stretched("pass", "salt", rounds); len(got) != 32 || got != impl.Stretched("pass"+zeros(60), "salt", rounds) {
			t.Errorf("%d rounds: noughts behind a short pass change something", rounds)
		}
	}
}

func TestStretchedRefuses(t *testing.T) {
	for _, rounds := range []int64{0, -1, 51, 100, 1 << 32, 1<<32 + 1, math.MinInt64, math.MaxInt64} {
		for _, n := range []int{0, 1, 1000} {
			if got := impl.Stretched(zeros(n), zeros(n), rounds); got != "" {
				t.Errorf("%d rounds: %d bytes, want none", rounds, len(got))
			}
		}
	}
	for _, p := range [][2]int{{1001, 0}, {0, 1001}, {1001, 1000}, {1000, 1001}, {1001, 1001}, {4000, 16}, {16, 4000}} {
		for _, rounds := range []int64{1, 50} {
			if got := impl.Stretched(zeros(p[0]), zeros(p[1]), rounds); got != "" {
				t.Errorf("a pass of %d and a salt of %d: %d bytes, want none", p[0], p[1], len(got))
			}
		}
	}
}
