package tests

import (
	"crypto/sha256"
	"encoding/hex"
	"math"
	"slices"
	"strings"
	"testing"

	"loop.example/g00569/impl"
)

const (
	countingKey = "000102030405060708090a0b0c0d0e0f101112131415161718191a1b1c1d1e1f"
	streamNonce = "000000000000004a00000000"
	lastStart   = int64(4294960000)
)

func bytesOf(t *testing.T, digits string) string {
	t.Helper()
	b, err := hex.DecodeString(digits)
	if err != nil {
		t.Fatal(err)
	}
	return string(b)
}

func digitsOf(s string) string {
	return hex.EncodeToString([]byte(s))
}

func TestQuarterOfTheStandard(t *testing.T) {
	rows := [][2][]int64{
		{{0x11111111, 0x01020304, 0x9b8d6f43, 0x01234567}, {0xea2a92f4, 0xcb1cf8ce, 0x4581472e, 0x5881c4bb}},
		{{0x516461b1, 0x2a5f714c, 0x53372767, 0x3d631689}, {0xbdb886dc, 0xcfacafd2, 0xe46bea80, 0xccc07c79}},
		{{0, 0, 0, 0}, {0, 0, 0, 0}},
	}
	for _, row := range rows {
		if got := impl.Quarter(row[0]); !slices.Equal(got, row[1]) {
			t.Errorf("Quarter(%x) = %x, want %x", row[0], got, row[1])
		}
	}
}

// unquartered goes the way of Quarter back, with subtraction instead of addition.
func unquartered(l []int64) []int64 {
	a, b, c, d := uint32(l[0]), uint32(l[1]), uint32(l[2]), uint32(l[3])
	back := func(x uint32, by int) uint32 { return x>>by | x<<(32-by) }
	b = back(b, 7) ^ c
	c -= d
	d = back(d, 8) ^ a
	a -= b
	b = back(b, 12) ^ c
	c -= d
	d = back(d, 16) ^ a
	a -= b
	return []int64{int64(a), int64(b), int64(c), int64(d)}
}

func TestQuarterGoesRound(t *testing.T) {
	r := fixedRandom()
	lists := [][]int64{{maxWord, maxWord, maxWord, maxWord}, {maxWord, 1, maxWord, 1}, {0, 0, 0, maxWord}}
	for range 200 {
		lists = append(lists, randomWords(r, 4))
	}
	for _, l := range lists {
		got := impl.Quarter(l)
		if len(got) != 4 {
			t.Fatalf("Quarter(%d) = %d", l, got)
		}
		for _, n := range got {
			if n < 0 || n > maxWord {
				t.Errorf("Quarter(%d) has %d, which is no word", l, n)
			}
		}
		if !slices.Equal(unquartered(got), l) {
			t.Errorf("Quarter(%d) does not go back", l)
		}
	}
}

func TestQuarterRefuses(t *testing.T) {
	for _, n := range []int{0, 1, 3, 5, 8, 16} {
		if got := impl.Quarter(make([]int64, n)); len(got) != 0 {
			t.Errorf("Quarter of %d words = %d, want none", n, got)
		}
	}
	for _, bad := range noWords {
		for place := range 4 {
			l := []int64{1, 2, 3, 4}
			l[place] = bad
			if got := impl.Quarter(l); len(got) != 0 {
				t.Errorf("Quarter(%d) = %d, want none", l, got)
			}
		}
	}
}

func TestQuarterLeavesItsArgumentAlone(t *testing.T) {
	l, check := withRoom(t, []int64{1, 2, 3, 4})
	first := impl.Quarter(l)
	want := slices.Clone(first)
	check()
	spoil(first)
	check()
	if got := impl.Quarter(l); !slices.Equal(got, want) {
		t.Errorf("Quarter answers twice in two ways: %d, %d", got, want)
	}
}

// The first six blocks are those of RFC 8439; the others were made with openssl enc -chacha20.
func TestBlocksOfTheStandard(t *testing.T) {
	zeroKey, ones := strings.Repeat("00", 32), strings.Repeat("ff", 12)
	rows := []struct {
		key, nonce string
		counter    int64
		want       string
	}{
		{zeroKey, strings.Repeat("00", 12), 0, "76b8e0ada0f13d90405d6ae55386bd28bdd219b8a08ded1aa836efcc8b770dc7da41597c5157488d7724e03fb8d84a376a43b8f41518a11cc387b669b2ee6586"},
		{zeroKey, strings.Repeat("00", 12), 1, "9f07e7be5551387a98ba977c732d080dcb0f29a048e3656912c6533e32ee7aed29b721769ce64e43d57133b074d839d531ed1f28510afb45ace10a1f4b794d6f"},
		{strings.Repeat("00", 31) + "01", strings.Repeat("00", 12), 1, "3aeb5224ecf849929b9d828db1ced4dd832025e8018b8160b82284f3c949aa5a8eca00bbb4a73bdad192b5c42f73f2fd4e273644c8b36125a64addeb006c13a0"},
		{"00ff" + strings.Repeat("00", 30), strings.Repeat("00", 12), 2, "72d54dfbf12ec44b362692df94137f328fea8da73990265ec1bbbea1ae9af0ca13b25aa26cb4a648cb9b9d1be65b2c0924a66c54d545ec1b7374f4872e99f096"},
		{zeroKey, strings.Repeat("00", 11) + "02", 0, "c2c64d378cd536374ae204b9ef933fcd1a8b2288b3dfa49672ab765b54ee27c78a970e0e955c14f3a88e741b97c286f75f8fc299e8148362fa198a39531bed6d"},
		{countingKey, "000000090000004a00000000", 1, "10f1e7e4d13b5915500fdd1fa32071c4c7d1f4c733c068030422aa9ac3d46c4ed2826446079faa0914c2d705d98b02a2b5129cd1de164eb9cbd083e8a2503c4e"},
		{countingKey, "000000090000004a00000000", maxWord, "ff2941b8d740f6cbb50936bf997ebd5218cb108dc53f41c64841d0218167430ca03b770ca74ccb642a28194d1dedd2ed13151e25ec5d7faeb6d060bfb7e6b146"},
		{countingKey, ones, lastStart, "e5188ab77c3e7088cc6c2b718bac7ec9ebd692a299d01a33423a558711f98187b63f0ff04b187093cb74c00a88cc5c5951e80d377d439e3f39f8cdc6d440a392"},
		{strings.Repeat("ff", 32), ones, maxWord, "d72b21cfa4b6b0c41d61f62b8a11159c6a4f63bc56c2035796c7ad37811121bbec56d54a530f3a933dd28a50feb23bfaf64f405be985f3718bdf4683e96be749"},
	}
	for i, row := range rows {
		if got := impl.ChaBlock(bytesOf(t, row.key), bytesOf(t, row.nonce), row.counter); digitsOf(got) != row.want {
			t.Errorf("block %d is %x, want %s", i, got, row.want)
		}
	}
}

func TestChaBlockRefuses(t *testing.T) {
	key, nonce := zeros(32), zeros(12)
	for _, n := range []int{0, 1, 16, 31, 33, 64} {
		if got := impl.ChaBlock(zeros(n), nonce, 1); got != "" {
			t.Errorf("a key of %d bytes makes a block", n)
		}
	}
	for _, n := range []int{0, 8, 11, 13, 16, 24} {
		if got := impl.ChaBlock(key, zeros(n), 1); got != "" {
			t.Errorf("a nonce of %d bytes makes a block", n)
		}
	}
	if impl.ChaBlock(zeros(31), zeros(13), 1) != "" || impl.ChaBlock(zeros(33), zeros(11), 1) != "" {
		t.Error("a key and a nonce that are as long together make a block")
	}
	for _, counter := range noWords {
		if got := impl.ChaBlock(key, nonce, counter); got != "" {
			t.Errorf("counter %d makes a block", counter)
		}
	}
}

func TestStreamOfTheStandard(t *testing.T) {
	text := "Ladies and Gentlemen of the class of '99: If I could offer you only one tip for the future, sunscreen would be it."
	want := "6e2e359a2568f98041ba0728dd0d6981e97e7aec1d4360c20a27afccfd9fae0b" +
		"f91b65c5524733ab8f593dabcd62b3571639d624e65152ab8f530c359f0861d8" +
		"07ca0dbf500d6a6156a38e088a22b65e52bc514d16ccf806818ce91ab7793736" +
		"5af90bbf74a35be6b40b8eedf2785e42874d"
	got := impl.ChaStream(bytesOf(t, countingKey), bytesOf(t, streamNonce), 1, text)
	if digitsOf(got) != want {
		t.Errorf("%x, want %s", got, want)
	}
}

// The digests are those of what openssl enc -chacha20 makes of the same text.
func TestStreamOfManyBlocks(t *testing.T) {
	text := countedText(impl.MaxText)
	rows := []struct {
		counter int64
		digest  string
	}{
		{0, "d4a92558178eb44e34490196f5b052a6b7eb43cccbb75bd34dcdd4173ee54469"},
		{1, "c9b0f6715899f0e675e9166d05d6e623d25d2fba9f48b349eb72e31522dc32f2"},
		{lastStart, "d134fd1fcf27f1df5098b992c62cc7a6b64d261736e37c5dfbe2c30757362429"},
	}
	for _, row := range rows {
		got := impl.ChaStream(bytesOf(t, countingKey), bytesOf(t, streamNonce), row.counter, text)
		if sum := sha256.Sum256([]byte(got)); len(got) != impl.MaxText || hex.EncodeToString(sum[:]) != row.digest {
			t.Errorf("another stream of %d bytes from counter %d on", len(got), row.counter)
		}
	}
}

func streamLengths() []int {
	return []int{0, 1, 63, 64, 65, 127, 128, 129, 192, 1000, 3968, 3969, 3999, 4000}
}

func streamCounters() []int64 {
	return []int64{0, 1, 255, 65535, 1<<31 - 1, 1 << 31, lastStart - 1, lastStart}
}

func TestStreamIsTextAndBlocks(t *testing.T) {
	r := fixedRandom()
	for _, counter := range streamCounters() {
		key, nonce := randomText(r, 32), randomText(r, 12)
		var blocks strings.Builder
		for i := range int64(63) {
			blocks.WriteString(impl.ChaBlock(key, nonce, counter+i))
		}
		for _, n := range streamLengths() {
			text := randomText(r, n)
			want := impl.Xor(text, blocks.String()[:n])
			if got := impl.ChaStream(key, nonce, counter, text); got != want || len(got) != n {
				t.Errorf("%d bytes from counter %d on are not the text and the blocks", n, counter)
			}
		}
	}
}

func TestStreamTwice(t *testing.T) {
	r := fixedRandom()
	for _, counter := range streamCounters() {
		for _, n := range streamLengths() {
			key, nonce, text := randomText(r, 32), randomText(r, 12), randomText(r, n)
			once := impl.ChaStream(key, nonce, counter, text)
			if len(once) != n || impl.ChaStream(key, nonce, counter, once) != text {
				t.Errorf("%d bytes do not come back from counter %d on", n, counter)
			}
			if impl.ChaStream(key, nonce, counter, text) != once {
				t.Errorf("%d bytes from counter %d on: twice in two ways", n, counter)
			}
		}
	}
}

func TestStreamABlockLater(t *testing.T) {
	r := fixedRandom()
	for _, counter := range []int64{0, 1, 254, 255, 65535, maxWord >> 1, lastStart - 2, lastStart - 1} {
		for _, n := range []int{65, 127, 128, 129, 1000, 4000} {
			key, nonce, text := randomText(r, 32), randomText(r, 12), randomText(r, n)
			whole := impl.ChaStream(key, nonce, counter, text)
			later := impl.ChaStream(key, nonce, counter+1, text[64:])
			if len(whole) != n || whole[64:] != later {
				t.Errorf("%d bytes from counter %d on are others a block later", n, counter)
			}
		}
	}
}

func TestChaStreamRefuses(t *testing.T) {
	key, nonce := zeros(32), zeros(12)
	for _, n := range []int{0, 1, 16, 31, 33, 64} {
		if got := impl.ChaStream(zeros(n), nonce, 1, "text"); got != "" {
			t.Errorf("a key of %d bytes makes a stream", n)
		}
	}
	for _, n := range []int{0, 8, 11, 13, 16, 24} {
		if got := impl.ChaStream(key, zeros(n), 1, "text"); got != "" {
			t.Errorf("a nonce of %d bytes makes a stream", n)
		}
	}
	for _, counter := range []int64{-1, lastStart + 1, maxWord, maxWord + 1, math.MinInt64, math.MaxInt64} {
		if got := impl.ChaStream(key, nonce, counter, "text"); got != "" {
			t.Errorf("counter %d makes a stream", counter)
		}
	}
	for _, n := range []int{4001, 8000} {
		if got := impl.ChaStream(key, nonce, 1, zeros(n)); got != "" {
			t.Errorf("%d bytes make a stream", n)
		}
	}
}
