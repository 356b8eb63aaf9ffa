package tests

import (
	"crypto/sha256"
	"encoding/hex"
	"math"
	"math/rand"
	"strings"
	"testing"

	"loop.example/g00569/impl"
)

// A seal has what one call of Sealed takes.
type seal struct {
	key, nonce, with, text string
}

func randomSeal(r *rand.Rand, with int, text int) seal {
	return seal{randomText(r, 32), randomText(r, 12), randomText(r, with), randomText(r, text)}
}

func (s seal) box(t *testing.T) string {
	t.Helper()
	box := impl.Sealed(s.key, s.nonce, s.with, s.text)
	if len(box) != len(s.text)+16 {
		t.Fatalf("a text of %d bytes beside %d has a box of %d", len(s.text), len(s.with), len(box))
	}
	return box
}

func (s seal) refuses(t *testing.T, box string, why string) {
	t.Helper()
	if text, ok := impl.Opened(s.key, s.nonce, s.with, box); ok || text != "" {
		t.Errorf("%s: opened, %t, with %d bytes", why, ok, len(text))
	}
}

func turned(s string, bit int) string {
	b := []byte(s)
	b[bit/8] ^= 1 << (bit % 8)
	return string(b)
}

func sealLengths() [][2]int {
	l := [][2]int{{12, 114}, {999, 3999}, {1000, 4000}, {1000, 0}, {0, 4000}}
	for _, with := range []int{0, 1, 15, 16, 17} {
		for _, text := range []int{0, 1, 15, 16, 17, 31, 32, 63, 64, 65} {
			l = append(l, [2]int{with, text})
		}
	}
	return l
}

func TestSealOfTheStandard(t *testing.T) {
	key := bytesOf(t, "1c9240a5eb55d38af333888604f6b5f0473917c1402b80099dca5cbc207075c0")
	nonce, with := bytesOf(t, "000000000102030405060708"), bytesOf(t, "f33388860000000000004e91")
	text := "Internet-Drafts are draft documents valid for a maximum of six months and may be updated, replaced, or obsoleted by other documents at any time. It is inappropriate to use Internet-Drafts as reference material or to cite them other than as /\xe2\x80\x9cwork in progress./\xe2\x80\x9d"
	box := bytesOf(t, "64a0861575861af460f062c79be643bd5e805cfd345cf389f108670ac76c8cb2"+
		"4c6cfc18755d43eea09ee94e382d26b0bdb7b73c321b0100d4f03b7f355894cf"+
		"332f830e710b97ce98c8a84abd0b948114ad176e008d33bd60f982b1ff37c855"+
		"9797a06ef4f0ef61c186324e2b3506383606907b6a7c02b0f9f6157b53c867e4"+
		"b9166c767b804d46a59b5216cde7a4e99040c5a40433225ee282a1b0a06c523e"+
		"af4534d7f83fa1155b0047718cbc546a0d072b04b3564eea1b422273f548271a"+
		"0bb2316053fa76991955ebd63159434ecebb4e466dae5a1073a6727627097a10"+
		"49e617d91d361094fa68f0ff77987130305beaba2eda04df997b714d6c6f2c29"+
		"a6ad5cb4022b02709b"+"eead9d67890cbb22392336fea1851f38")
	if got, ok := impl.Opened(key, nonce, with, box); !ok || got != text {
		t.Errorf("opened: %t, %q", ok, got)
	}
	if got := impl.Sealed(key, nonce, with, text); got != box {
		t.Errorf("sealed: %x", got)
	}
}

// The digests are those of the boxes that the Python package cryptography makes of the same arguments.
func TestSealsAreThoseOfOthers(t *testing.T) {
	rows := []struct {
		with, text  int
		tag, digest string
	}{
		{0, 0, "e9dfc72a53d4cec416165db4717cb0c2", "e41f2d2f768cfcef8654fab8a02c445c79a0f991957b97f71a9c2a331a7b4612"},
		{0, 1, "39ca0e169df2d1c2516474aabc48d831", "ab1101da9fe6e1cb45d08919a3373d79b1d609589512b417024807089ad218a4"},
		{1, 0, "6ada5e4588d4937b63ab3f73a899cc1f", "151bdd5968c96bc54fbf3997cbcd52bc11cccf3a95e7ded36f0deb320129548a"},
		{15, 15, "bbd30e376d1a3a38621120f984ee6f80", "c84d6d525824eead4711c6cc7648cbc65b9d0fe9584d6efa3cb5f2128935c14b"},
		{16, 16, "ca6aeb097d890920ac342623a761e42b", "177f6b6b3997f4865835103fd637a50fc13da150d5e7184df273e35250ac4851"},
		{17, 17, "23774f587c3f9a5a34d5714d4f536dd2", "c63bb80f325a5f15daf8cba907205fb83d70ac67e086d908f5c8ed02be5b613b"},
		{31, 33, "b61d7e84a5d8e69640f554b5cca83927", "3688f2d250aece93bf560099babb90324984c640dfe71d712e5a2bfce0f91bf6"},
		{999, 3999, "01bace91a598e6445145cc65fad036dd", "104a6a01fd4ee9f7314c9b3103dbbe03af99d4029395cf90dad17ebb991f1fc5"},
		{1000, 4000, "d2a1ec169b60afe063867fc87005cb65", "24444acb834974e16805878f27f8f5d0646bd207725fe6fe39850053683e48ed"},
		{1000, 0, "252160db77c75da884cea284851846b8", "7ead6349e3ef5bf583bd2c954c8b6e3a17a1d5e009cbe0a91d73fa9bcb437d6d"},
		{0, 4000, "dcaba87d44f3a4ba390b624db5257cb8", "d017956750cebdc5e273970d514f028181af49aa5195f5e484fa935b7cf847b6"},
	}
	for _, row := range rows {
		s := seal{bytesOf(t, countingKey), bytesOf(t, streamNonce), countedText(row.with), countedText(row.text)}
		box := s.box(t)
		sum := sha256.Sum256([]byte(box))
		if digitsOf(box[row.text:]) != row.tag || hex.EncodeToString(sum[:]) != row.digest {
			t.Errorf("%d bytes beside %d: another box, with the tag %x", row.text, row.with, box[row.text:])
		}
	}
}

func TestSealedComesBack(t *testing.T) {
	r := fixedRandom()
	for _, n := range sealLengths() {
		s := randomSeal(r, n[0], n[1])
		box := s.box(t)
		if text, ok := impl.Opened(s.key, s.nonce, s.with, box); !ok || text != s.text {
			t.Errorf("%d bytes beside %d do not come back: %t", n[1], n[0], ok)
		}
		if s.box(t) != box {
			t.Errorf("%d bytes beside %d: twice in two ways", n[1], n[0])
		}
	}
}

func TestEachBitOfATagCounts(t *testing.T) {
	r := fixedRandom()
	for _, n := range [][2]int{{0, 0}, {0, 1}, {17, 16}, {12, 114}, {1000, 4000}} {
		s := randomSeal(r, n[0], n[1])
		box := s.box(t)
		for bit := 8 * len(s.text); bit < 8*len(box); bit++ {
			s.refuses(t, turned(box, bit), "a bit of the tag is turned")
		}
	}
}

func TestEachBitBesideAndWithinCounts(t *testing.T) {
	s := randomSeal(fixedRandom(), 20, 40)
	box := s.box(t)
	for bit := range 8 * len(s.text) {
		s.refuses(t, turned(box, bit), "a bit of the first part is turned")
	}
	for bit := range 8 * len(s.with) {
		other := s
		other.with = turned(s.with, bit)
		other.refuses(t, box, "a bit of what stands beside it is turned")
	}
	for bit := range 8 * 32 {
		other := s
		other.key = turned(s.key, bit)
		other.refuses(t, box, "a bit of the key is turned")
	}
	for bit := range 8 * 12 {
		other := s
		other.nonce = turned(s.nonce, bit)
		other.refuses(t, box, "a bit of the nonce is turned")
	}
}

// Noughts fill both parts up to 16 bytes, so how long they are must count, too.
func TestNoughtsBesideAndWithinCount(t *testing.T) {
	for _, n := range []int{0, 1, 14, 15, 16} {
		s := seal{countedText(32), countedText(12), zeros(n), "some text"}
		box := s.box(t)
		for _, other := range []int{n + 1, n + 2, n + 16} {
			s.with = zeros(other)
			s.refuses(t, box, "noughts behind what stands beside it")
		}
	}
	s := randomSeal(fixedRandom(), 5, 40)
	box := s.box(t)
	for n := range len(box) {
		s.refuses(t, box[:n], "a part of the box")
		s.refuses(t, box[len(box)-n:], "an end of the box")
	}
	for _, more := range []string{"\x00", zeros(16), "a"} {
		s.refuses(t, box+more, "more behind the box")
		s.refuses(t, more+box, "more ahead of the box")
		s.refuses(t, box[:40]+more+box[40:], "more ahead of the tag")
	}
	s.with, box = s.with+box[:16], box[16:]
	s.refuses(t, box, "the first part stands beside it")
}

func TestBoxesThatAreTooShort(t *testing.T) {
	s := seal{countedText(32), countedText(12), "beside", ""}
	box := s.box(t)
	if text, ok := impl.Opened(s.key, s.nonce, s.with, box); !ok || text != "" || len(box) != 16 {
		t.Errorf("a box of %d bytes: %t, %q", len(box), ok, text)
	}
	for n := range 16 {
		s.refuses(t, box[:n], "a box of less than 16 bytes")
	}
}

func TestSealedRefuses(t *testing.T) {
	key, nonce := zeros(32), zeros(12)
	rows := []seal{
		{key, nonce, zeros(1001), "text"},
		{key, nonce, zeros(4000), ""},
		{key, nonce, "", zeros(4001)},
		{key, nonce, zeros(1000), zeros(4001)},
		{key, nonce, zeros(1001), zeros(4000)},
		{zeros(31), zeros(13), "", "text"},
		{"", "", "", ""},
	}
	for _, n := range []int{0, 1, 16, 31, 33, 64} {
		rows = append(rows, seal{zeros(n), nonce, "", "text"})
	}
	for _, n := range []int{0, 8, 11, 13, 16, 24} {
		rows = append(rows, seal{key, zeros(n), "", "text"})
	}
	for _, s := range rows {
		if got := impl.Sealed(s.key, s.nonce, s.with, s.text); got != "" {
			t.Errorf("a key of %d, a nonce of %d, %d bytes beside, %d: a box of %d", len(s.key), len(s.nonce), len(s.with), len(s.text), len(got))
		}
		s.refuses(t, zeros(len(s.text)+16), "arguments that are not right")
	}
}

// sealedByHand makes boxes of whatever lengths, so that what is too long is refused although its tag is right.
func sealedByHand(s seal) string {
	var stream strings.Builder
	for counter := int64(1); stream.Len() < len(s.text); counter++ {
		stream.WriteString(impl.ChaBlock(s.key, s.nonce, counter))
	}
	hidden := make([]byte, len(s.text))
	for i := range hidden {
		hidden[i] = s.text[i] ^ stream.String()[i]
	}
	to16 := func(n int) string { return zeros((16 - n%16) % 16) }
	long := func(n int) string { return string([]byte{byte(n), byte(n >> 8), 0, 0, 0, 0, 0, 0}) }
	tagKey := impl.ChaBlock(s.key, s.nonce, 0)[:32]
	return string(hidden) + impl.TagOf(tagKey, s.with+to16(len(s.with))+string(hidden)+to16(len(hidden))+long(len(s.with))+long(len(hidden)))
}

func TestOpenedRefusesWhatIsTooLong(t *testing.T) {
	r := fixedRandom()
	for _, n := range [][2]int{{1000, 4000}, {0, 0}, {3, 200}} {
		s := randomSeal(r, n[0], n[1])
		if text, ok := impl.Opened(s.key, s.nonce, s.with, sealedByHand(s)); !ok || text != s.text {
			t.Errorf("%d bytes beside %d: %t", n[1], n[0], ok)
		}
	}
	for _, n := range [][2]int{{1001, 4000}, {1000, 4001}, {1001, 0}, {0, 4001}, {0, 4016}, {1016, 16}} {
		s := randomSeal(r, n[0], n[1])
		s.refuses(t, sealedByHand(s), "too long")
	}
}

func TestPaddedHasNoughtsUpToTheNextTime(t *testing.T) {
	for to := 1; to <= 256; to++ {
		for _, n := range []int{0, 1, 2, to - 2, to - 1, to, to + 1, 2*to - 1, 2 * to, 3999, 4000} {
			if n < 0 {
				continue
			}
			text := strings.Repeat("\x80", n)
			got := impl.Padded(text, int64(to))
			size := n/to*to + to
			if len(got) != size || got != text+"\x80"+zeros(size-n-1) {
				t.Fatalf("%d bytes padded to %d have %d", n, to, len(got))
			}
			if back, ok := impl.Unpadded(got); !ok || back != text {
				t.Fatalf("%d bytes padded to %d do not come back: %t", n, to, ok)
			}
		}
	}
}

func TestPaddedComesBack(t *testing.T) {
	r := fixedRandom()
	texts := []string{"", "\x80", "\x00", "\x80\x00", "\x00\x80", zeros(64), zeros(4000), strings.Repeat("\x80", 64)}
	for _, n := range []int{1, 63, 64, 65, 255, 256, 257, 3999, 4000} {
		texts = append(texts, randomText(r, n))
	}
	for _, text := range texts {
		for to := int64(1); to <= 256; to++ {
			if got, ok := impl.Unpadded(impl.Padded(text, to)); !ok || got != text {
				t.Fatalf("%d bytes padded to %d do not come back: %t", len(text), to, ok)
			}
		}
	}
}

func TestPaddedRefuses(t *testing.T) {
	for _, to := range []int64{0, -1, 257, 512, 1 << 32, 1<<32 + 1, math.MinInt64, math.MaxInt64} {
		for _, text := range []string{"", "a", zeros(4000)} {
			if got := impl.Padded(text, to); got != "" {
				t.Errorf("%d bytes padded to %d have %d", len(text), to, len(got))
			}
		}
	}
	for _, n := range []int{4001, 4095, 8000} {
		for _, to := range []int64{1, 64, 256} {
			if got := impl.Padded(zeros(n), to); got != "" {
				t.Errorf("%d bytes padded to %d have %d", n, to, len(got))
			}
		}
	}
}

func TestUnpaddedAsksTheLastByteAlone(t *testing.T) {
	for c := range 256 {
		for _, text := range []string{"", "a", "\x80", "\x00", countedText(70)} {
			for _, behind := range []int{0, 1, 300} {
				s := text + string([]byte{byte(c)}) + zeros(behind)
				got, ok := impl.Unpadded(s)
				switch {
				case c == 128 && (!ok || got != text):
					t.Errorf("%d bytes ahead of 128 and %d noughts: %q, %t", len(text), behind, got, ok)
				case c != 128 && c != 0 && (ok || got != ""):
					t.Errorf("a byte %d ahead of %d noughts: %q, %t", c, behind, got, ok)
				}
			}
		}
	}
}

func TestUnpaddedAtItsLimit(t *testing.T) {
	for _, s := range []string{zeros(7999) + "\x80", "\x80" + zeros(7999), countedText(4000) + "\x80" + zeros(3999)} {
		want := s[:strings.LastIndexByte(s, 128)]
		if got, ok := impl.Unpadded(s); len(s) != 8000 || !ok || got != want {
			t.Errorf("%d bytes ahead of 128, %d in all: %d, %t", len(want), len(s), len(got), ok)
		}
	}
	for _, s := range []string{zeros(8000) + "\x80", "\x80" + zeros(8000), zeros(15999) + "\x80"} {
		if got, ok := impl.Unpadded(s); ok || got != "" {
			t.Errorf("%d bytes are taken", len(s))
		}
	}
}

func TestUnpaddedRefuses(t *testing.T) {
	bad := []string{"", "\x00", zeros(64), zeros(8000), "abc", "\x80a", "\x80a\x00", "\x80\x01", "\x80\x7f", "\x80\x81\x00", "\x80\xff"}
	for _, s := range bad {
		if got, ok := impl.Unpadded(s); ok || got != "" {
			t.Errorf("Unpadded of %d bytes: %q, %t", len(s), got, ok)
		}
	}
}
