package tests

import (
	"crypto/sha256"
	"encoding"
	"encoding/binary"
	"math/rand"
	"strings"
	"testing"

	"loop.example/g00569/impl"
)

const firstSha = "6a09e667bb67ae853c6ef372a54ff53a510e527f9b05688c1f83d9ab5be0cd19"

// digestLengths are those at which a block begins, is full, or has no room for the length.
func digestLengths() []int {
	return []int{0, 1, 2, 54, 55, 56, 57, 62, 63, 64, 65, 118, 119, 120, 121, 127, 128, 129, 1000, 3959, 3960, 3999, 4000}
}

func knownDigest(s string) string {
	sum := sha256.Sum256([]byte(s))
	return string(sum[:])
}

// knownStep lets the standard library go on from a state by one block.
func knownStep(t *testing.T, state string, block string) string {
	t.Helper()
	const mark = "sha\x03"
	digest := sha256.New()
	saved := mark + state + zeros(64) + zeros(8)
	if err := digest.(encoding.BinaryUnmarshaler).UnmarshalBinary([]byte(saved)); err != nil {
		t.Fatal(err)
	}
	digest.Write([]byte(block))
	after, err := digest.(encoding.BinaryMarshaler).MarshalBinary()
	if err != nil {
		t.Fatal(err)
	}
	return string(after[len(mark) : len(mark)+32])
}

// steppedOver answers the state behind all blocks, from the first state on.
func steppedOver(t *testing.T, padded string) string {
	t.Helper()
	state := bytesOf(t, firstSha)
	for start := 0; start+64 <= len(padded); start += 64 {
		state = impl.ShaStep(state, padded[start:start+64])
	}
	return state
}

func TestDigestsOfTheStandard(t *testing.T) {
	rows := [][2]string{
		{"", "e3b0c44298fc1c149afbf4c8996fb92427ae41e4649b934ca495991b7852b855"},
		{"abc", "ba7816bf8f01cfea414140de5dae2223b00361a396177a9cb410ff61f20015ad"},
		{"abcdbcdecdefdefgefghfghighijhijkijkljklmklmnlmnomnopnopq", "248d6a61d20638b8e5c026930c3e6039a33ce45964ff2167f6ecedd419db06c1"},
		{"abcdefghbcdefghicdefghijdefghijkefghijklfghijklmghijklmnhijklmnoijklmnopjklmnopqklmnopqrlmnopqrsmnopqrstnopqrstu", "cf5b16a778af8380036ce59e7b0492370b249b11e8f07a51afac45037afee9d1"},
		{"\xbd", "68325720aabd7c82f30f554b313d0570c95accbb7dc4b5aae11204c08ffe732b"},
	}
	for _, row := range rows {
		if got := digitsOf(impl.Sha256(row[0])); got != row[1] {
			t.Errorf("Sha256(%q) = %s, want %s", row[0], got, row[1])
		}
	}
}

func TestDigestsOfEachLength(t *testing.T) {
	r := fixedRandom()
	for n := range 260 {
		s := randomText(r, n)
		if impl.Sha256(s) != knownDigest(s) {
			t.Errorf("another digest of %d bytes", n)
		}
	}
	for _, n := range digestLengths() {
		for _, s := range []string{zeros(n), countedText(n), strings.Repeat("\xff", n), strings.Repeat("\x80", n)} {
			if impl.Sha256(s) != knownDigest(s) {
				t.Errorf("another digest of %d bytes", n)
			}
		}
	}
}

func TestDigestIsTheStepsOverThePaddedText(t *testing.T) {
	r := fixedRandom()
	lengths := digestLengths()
	for range 50 {
		lengths = append(lengths, r.Intn(impl.MaxText+1))
	}
	for _, n := range lengths {
		s := randomText(r, n)
		digest := impl.Sha256(s)
		if len(digest) != 32 || steppedOver(t, impl.ShaPad(s)) != digest {
			t.Errorf("the steps over %d bytes make another digest", n)
		}
		if impl.Sha256(s) != digest {
			t.Errorf("%d bytes: twice in two ways", n)
		}
	}
}

func TestShaPadOfEachLength(t *testing.T) {
	for n := 0; n <= impl.MaxText; n++ {
		s := countedText(n)
		got := impl.ShaPad(s)
		size := (n + 9 + 63) / 64 * 64
		var length [8]byte
		binary.BigEndian.PutUint64(length[:], uint64(8*n))
		if want := s + "\x80" + zeros(size-n-9) + string(length[:]); got != want {
			t.Fatalf("%d bytes are padded to %d, want %d", n, len(got), len(want))
		}
	}
}

func TestShaPadAtTheEndOfABlock(t *testing.T) {
	sizes := map[int]int{0: 64, 55: 64, 56: 128, 63: 128, 64: 128, 119: 128, 120: 192, 3959: 3968, 3960: 4032, 4000: 4032}
	for n, want := range sizes {
		if got := len(impl.ShaPad(zeros(n))); got != want {
			t.Errorf("%d bytes are padded to %d, want %d", n, got, want)
		}
	}
}

func statesAndBlocks(r *rand.Rand) [][2]string {
	full := strings.Repeat("\xff", 64)
	l := [][2]string{{zeros(32), zeros(64)}, {full[:32], full}, {zeros(32), full}, {full[:32], zeros(64)}, {countedText(32), countedText(64)}}
	for range 200 {
		l = append(l, [2]string{randomText(r, 32), randomText(r, 64)})
	}
	for bit := range 256 {
		l = append(l, [2]string{turned(zeros(32), bit), zeros(64)})
	}
	for bit := range 512 {
		l = append(l, [2]string{zeros(32), turned(zeros(64), bit)})
	}
	return l
}

func TestShaStepFromWhateverState(t *testing.T) {
	for _, row := range statesAndBlocks(fixedRandom()) {
		if got, want := impl.ShaStep(row[0], row[1]), knownStep(t, row[0], row[1]); got != want {
			t.Errorf("ShaStep(%x, %x) = %x, want %x", row[0], row[1], got, want)
		}
	}
}

func TestShaPadAndSha256Refuse(t *testing.T) {
	for _, n := range []int{4001, 4031, 4032, 4064, 8000} {
		if got := impl.ShaPad(zeros(n)); got != "" {
			t.Errorf("%d bytes are padded to %d, want none", n, len(got))
		}
		if got := impl.Sha256(zeros(n)); got != "" {
			t.Errorf("%d bytes have a digest of %d, want none", n, len(got))
		}
	}
}

func TestShaStepRefuses(t *testing.T) {
	pairs := [][2]int{{0, 0}, {64, 32}, {31, 65}, {33, 63}}
	for _, n := range []int{0, 1, 8, 28, 31, 33, 64, 4000} {
		pairs = append(pairs, [2]int{n, 64})
	}
	for _, n := range []int{0, 1, 16, 32, 63, 65, 128, 4000} {
		pairs = append(pairs, [2]int{32, n})
	}
	for _, p := range pairs {
		if got := impl.ShaStep(zeros(p[0]), zeros(p[1])); got != "" {
			t.Errorf("a state of %d and a block of %d: %d bytes, want none", p[0], p[1], len(got))
		}
	}
}
