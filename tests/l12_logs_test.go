package tests

import (
	"crypto/sha256"
	"encoding/binary"
	"encoding/hex"
	"fmt"
	"math"
	"slices"
	"strings"
	"sync"
	"testing"

	"loop.example/g00569/impl"
)

const noBox = "no box is ahead."

var logKey = countedText(32)

func knownPadded(text string, to int) string {
	text += "\x80"
	return text + zeros((to-len(text)%to)%to)
}

func knownBeside(n int64, last string) string {
	return string(binary.LittleEndian.AppendUint64(nil, uint64(n))) + last
}

// knownBox takes any text, padded or not, so that boxes that no operation has can be made, too.
func knownBox(key string, n int64, last string, padded string) string {
	beside := knownBeside(n, last)
	nonce := knownHmac(key, beside+padded)[:12]
	return nonce + impl.Sealed(key, nonce, beside, padded)
}

func framed(box string) string {
	return string(binary.BigEndian.AppendUint16(nil, uint16(len(box)))) + box
}

// knownBoxes answers the boxes of the texts, each with its length ahead, as they stand in a log.
func knownBoxes(key string, texts []string) []string {
	var out []string
	last := noBox
	for i, text := range texts {
		box := knownBox(key, int64(i)+1, last, knownPadded(text, 64))
		last = box[len(box)-16:]
		out = append(out, framed(box))
	}
	return out
}

func textsOf(l []impl.Op) []string {
	var out []string
	for _, o := range l {
		out = append(out, knownOpText(o))
	}
	return out
}

func knownLog(key string, l []impl.Op) string {
	return strings.Join(knownBoxes(key, textsOf(l)), "")
}

func lengthOf(boxes []string) int64 {
	return int64(len(strings.Join(boxes, "")))
}

func checkRead(t *testing.T, key string, s string, want []impl.Op, end int64, why string) {
	t.Helper()
	got, at := readLog(t, key, s)
	if !sameOps(got, want) || at != end {
		t.Errorf("%s: %d operations up to %d, want %d up to %d", why, len(got), at, len(want), end)
	}
}

// nineOps has one operation of each Kind; its boxes are not all as long.
func nineOps() []impl.Op {
	l := rightOps("u", "1")
	l[2].Feed.Items = append(l[2].Feed.Items, impl.Item{Id: "2", Title: `"two" & more`, Day: 5})
	return l
}

func manyAdds(count int) []impl.Op {
	var l []impl.Op
	for i := range count {
		l = append(l, addOf(fmt.Sprintf("u%d", i)))
	}
	return l
}

func manyFetches(count int) []impl.Op {
	return slices.Repeat([]impl.Op{fetchOf(longestFeed())}, count)
}

// The digits and digests of these two tests are those that the Python packages hmac and cryptography make of the same arguments.
func TestBoxesAreThoseOfOthers(t *testing.T) {
	key := bytesOf(t, countingKey)
	rows := []struct {
		n    int64
		last string
		o    impl.Op
		box  string
	}{
		{1, noBox, addOf("u"), "8f717e2bcfa279d40729f67eaa0737ee0f00ce3d6cc6dd5aa9bab0d8b6edd835d569ca441ff5c3c1ed5559f52392ab6451930fd10038fc6679fff24640d8526ffea61e49486bf0e5ae66319a7b89cf5af4af5dac3d9aff206d07bd86"},
		{1000000, "\x00\x01\x02\x03\x04\x05\x06\x07\x08\x09\x0a\x0b\x0c\x0d\x0e\x0f", markOf(impl.OpRead, "u", "1"), "e5f58de5d8a1595e822f9b6d8b447d440dee8d10a432d734c3b7d39197b17929aebb7252671a4aeee719cafb7cdc12903769ca2d34187fe4a01f80787e631bf705b885ee87cc7f663db9f8aee20743c83da7b1093afceede9fdc5576"},
	}
	for _, row := range rows {
		if got := digitsOf(boxOf(t, key, row.n, row.last, row.o)); got != row.box {
			t.Errorf("box %d: %s", row.n, got)
		}
	}
}

func TestLogsAreThoseOfOthers(t *testing.T) {
	nine := []impl.Op{
		addOf("u"), dropOf("a&b"), fetchOf(feedWith("u", "T", "1", "x", 10)), markOf(impl.OpRead, "u", "1"), markOf(impl.OpUnread, "u", "1"),
		markOf(impl.OpStar, "u", "1"), markOf(impl.OpUnstar, "u", "1"), allOf("u"), purgeOf(20772),
	}
	rows := []struct {
		l      []impl.Op
		length int
		digest string
	}{
		{nine, 910, "f843c3ad79f21e79ec71e4cd685017e2c614a5b4dfd5c54097b06a5d9350fee7"},
		{manyAdds(200), 18800, "336a91b03bd7ac25de9fad387c87f793563de8b1483385474054fd69af03ea6e"},
	}
	for _, row := range rows {
		log := logOf(t, bytesOf(t, countingKey), row.l)
		sum := sha256.Sum256([]byte(log))
		if len(log) != row.length || hex.EncodeToString(sum[:]) != row.digest {
			t.Errorf("%d operations have another log, of %d bytes", len(row.l), len(log))
		}
	}
}

func checkBox(t *testing.T, n int64, last string, o impl.Op, why string) {
	t.Helper()
	want := knownBox(logKey, n, last, knownPadded(knownOpText(o), 64))
	if got := boxOf(t, logKey, n, last, o); got != want {
		t.Errorf("%s: a box of %d bytes, want %d: %x", why, len(got), len(want), got)
	}
}

func TestBoxesOfEachNumber(t *testing.T) {
	for _, n := range []int64{1, 2, 9, 10, 127, 128, 255, 256, 257, 65535, 65536, 999999, 1000000} {
		for _, o := range nineOps() {
			checkBox(t, n, noBox, o, fmt.Sprintf("number %d", n))
		}
	}
	for _, n := range []int64{0, -1, 1000001, 1000002, 1 << 32, 1<<32 + 1, math.MinInt64, math.MaxInt64} {
		if box := boxOf(t, logKey, n, noBox, addOf("u")); box != "" {
			t.Errorf("number %d: %x", n, box)
		}
	}
}

func TestBoxesOfEachLast(t *testing.T) {
	r := fixedRandom()
	for _, last := range []string{noBox, zeros(16), strings.Repeat("\xff", 16), randomText(r, 16)} {
		for _, o := range nineOps() {
			checkBox(t, 7, last, o, "a last one")
		}
	}
	for _, n := range []int{0, 1, 12, 15, 17, 24, 32, 4000} {
		if box := boxOf(t, logKey, 1, zeros(n), addOf("u")); box != "" {
			t.Errorf("a last of %d bytes: %x", n, box)
		}
	}
}

func TestBoxesOfEachKey(t *testing.T) {
	o := addOf("u")
	if box := boxOf(t, zeros(32), 1, noBox, o); box != knownBox(zeros(32), 1, noBox, knownPadded("add u", 64)) {
		t.Errorf("a key of noughts: %x", box)
	}
	for _, n := range []int{0, 1, 16, 31, 33, 64, 4000} {
		if box := boxOf(t, zeros(n), 1, noBox, o); box != "" {
			t.Errorf("a key of %d bytes: %x", n, box)
		}
		if log := logOf(t, zeros(n), []impl.Op{o}); log != "" {
			t.Errorf("a key of %d bytes: %x", n, log)
		}
	}
}

// A text of 63 bytes has room for the mark of its end in one block of 64, one of 64 has not.
func TestBoxesOfTextsOfEachLength(t *testing.T) {
	for title := range 25 {
		for _, url := range []int{1, 2, 20} {
			o := fetchOf(impl.Feed{Url: strings.Repeat("u", url), Title: strings.Repeat("t", title)})
			checkBox(t, 1, noBox, o, fmt.Sprintf("a text of %d bytes", len(knownOpText(o))))
		}
	}
	for _, row := range [][2]int{{21, 92}, {22, 156}, {23, 156}} {
		o := fetchOf(impl.Feed{Url: "u", Title: strings.Repeat("t", row[0])})
		if n := len(boxOf(t, logKey, 1, noBox, o)); n != row[1] {
			t.Errorf("a title of %d bytes: a box of %d, want %d", row[0], n, row[1])
		}
	}
	checkBox(t, 1, noBox, fetchOf(longestFeed()), "the longest text")
	if n := len(boxOf(t, logKey, 1, noBox, fetchOf(longestFeed()))); n != 3100 {
		t.Errorf("the longest box has %d bytes", n)
	}
}

func TestWrongOperationsHaveNoBox(t *testing.T) {
	for why, o := range wrongOps() {
		if box := boxOf(t, logKey, 1, noBox, o); box != "" {
			t.Errorf("%s: a box of %d bytes", why, len(box))
		}
		if log := logOf(t, logKey, []impl.Op{o}); log != "" {
			t.Errorf("%s: a log of %d bytes", why, len(log))
		}
	}
}

// The nonce, which may never be the same for two texts, comes of all that a box is made of.
func TestNoncesAreMadeOfAll(t *testing.T) {
	seen := map[string]bool{}
	for _, key := range []string{logKey, zeros(32)} {
		for _, n := range []int64{1, 2, 256} {
			for _, last := range []string{noBox, zeros(16)} {
				for _, o := range nineOps() {
					seen[boxOf(t, key, n, last, o)[:12]] = true
				}
			}
		}
	}
	if len(seen) != 2*3*2*9 {
		t.Errorf("%d nonces", len(seen))
	}
}

func checkLog(t *testing.T, l []impl.Op, why string) {
	t.Helper()
	log := logOf(t, logKey, l)
	if log != knownLog(logKey, l) {
		t.Errorf("%s: another log, of %d bytes", why, len(log))
	}
	checkRead(t, logKey, log, l, int64(len(log)), why)
}

func TestLogsOfEachLength(t *testing.T) {
	for _, n := range []int{0, 1, 2, 3, 9, 10, 127, 128, 129, 198, 199, 200} {
		checkLog(t, manyAdds(n), fmt.Sprintf("%d operations", n))
	}
	for _, n := range []int{201, 202, 400, 1000} {
		if log := logOf(t, logKey, manyAdds(n)); log != "" {
			t.Errorf("%d operations: a log of %d bytes", n, len(log))
		}
	}
	checkLog(t, []impl.Op{}, "an empty list")
	checkLog(t, nineOps(), "one of each Kind")
}

func TestTheLongestLog(t *testing.T) {
	l := manyFetches(200)
	log := logOf(t, logKey, l)
	if len(log) != 620400 {
		t.Errorf("the longest log has %d bytes", len(log))
	}
	checkRead(t, logKey, log, l, 620400, "the longest log")
}

func TestOneWrongOperationIsEnough(t *testing.T) {
	for _, count := range []int{1, 2, 9, 200} {
		for _, place := range []int{0, count / 2, count - 1} {
			l := manyAdds(count)
			l[place].Id = "1"
			if log := logOf(t, logKey, l); log != "" {
				t.Errorf("operation %d of %d is wrong: a log of %d bytes", place, count, len(log))
			}
		}
	}
}

func TestOperationsComeBackFromTheirLog(t *testing.T) {
	r := fixedRandom()
	for _, n := range []int{1, 2, 3, 5, 8, 13, 40, 200} {
		checkLog(t, namedOps(r, n), fmt.Sprintf("%d operations", n))
	}
}

func TestALogBeginsWithThatOfLess(t *testing.T) {
	l := nineOps()
	whole := logOf(t, logKey, l)
	for n := range len(l) {
		if part := logOf(t, logKey, l[:n]); !strings.HasPrefix(whole, part) || len(part) == len(whole) {
			t.Errorf("the log of %d operations is not the beginning of that of more", n)
		}
	}
}

// Whatever is cut off, the first operations are there: those whose boxes are whole.
func TestLogsThatAreCutOff(t *testing.T) {
	for _, l := range [][]impl.Op{nineOps(), manyAdds(3), {fetchOf(feedOf(2)), addOf("v")}} {
		boxes := knownBoxes(logKey, textsOf(l))
		log := logOf(t, logKey, l)
		count := 0
		for cut := range len(log) + 1 {
			for count < len(l) && lengthOf(boxes[:count+1]) <= int64(cut) {
				count++
			}
			checkRead(t, logKey, log[:cut], l[:count], lengthOf(boxes[:count]), fmt.Sprintf("cut off at %d", cut))
		}
		if count != len(l) {
			t.Errorf("%d operations of %d at the end", count, len(l))
		}
	}
}

func TestEachBitOfTheLastTagCounts(t *testing.T) {
	for _, l := range [][]impl.Op{{addOf("u")}, manyAdds(2), nineOps(), {addOf("u"), fetchOf(longestFeed())}} {
		boxes := knownBoxes(logKey, textsOf(l))
		log := logOf(t, logKey, l)
		for bit := 8 * (len(log) - 16); bit < 8*len(log); bit++ {
			checkRead(t, logKey, turned(log, bit), l[:len(l)-1], lengthOf(boxes[:len(l)-1]), "a bit of the last tag")
		}
	}
}

// Lengths, nonces, texts and tags: a bit of any of them ends the log ahead of its box.
func TestEachBitOfALogCounts(t *testing.T) {
	l := []impl.Op{addOf("u"), fetchOf(feedWith("u", "T", "1", "x", 10)), dropOf("u"), allOf("v")}
	boxes := knownBoxes(logKey, textsOf(l))
	log := logOf(t, logKey, l)
	for bit := range 8 * len(log) {
		count := 0
		for lengthOf(boxes[:count+1]) <= int64(bit/8) {
			count++
		}
		checkRead(t, logKey, turned(log, bit), l[:count], lengthOf(boxes[:count]), fmt.Sprintf("bit %d", bit))
	}
}

func TestLengthsThatAreNotTrue(t *testing.T) {
	l := nineOps()
	boxes := knownBoxes(logKey, textsOf(l))
	for place, box := range boxes {
		for _, length := range []int{0, 1, 11, 12, 27, 28, 91, 93, len(box) - 3, len(box) - 1, 0xffff} {
			if length == len(box)-2 {
				continue
			}
			other := slices.Clone(boxes)
			other[place] = string([]byte{byte(length >> 8), byte(length)}) + box[2:]
			checkRead(t, logKey, strings.Join(other, ""), l[:place], lengthOf(boxes[:place]), fmt.Sprintf("box %d says %d bytes", place, length))
		}
		swapped := slices.Clone(boxes)
		swapped[place] = box[1:2] + box[:1] + box[2:]
		checkRead(t, logKey, strings.Join(swapped, ""), l[:place], lengthOf(boxes[:place]), "the lower byte first")
	}
}

// Where boxes are changed the first of them are still there, up to the first one that is not in its place.
func TestBoxesLeftOutMovedOrRepeated(t *testing.T) {
	l := append(nineOps(), addOf("u"), addOf("u"))
	boxes := knownBoxes(logKey, textsOf(l))
	check := func(other []string, place int, why string) {
		t.Helper()
		checkRead(t, logKey, strings.Join(other, ""), l[:place], lengthOf(boxes[:place]), fmt.Sprintf("%s at %d", why, place))
	}
	for i := range boxes {
		check(slices.Delete(slices.Clone(boxes), i, i+1), i, "left out")
		check(slices.Insert(slices.Clone(boxes), i+1, boxes[i]), i+1, "repeated")
		for k := i + 1; k < len(boxes); k++ {
			other := slices.Clone(boxes)
			other[i], other[k] = boxes[k], boxes[i]
			check(other, i, "changed places")
			check(slices.Insert(slices.Clone(boxes), k+1, boxes[i]), k+1, "an older one once more")
			check(slices.Delete(slices.Clone(boxes), i, k), i, "more left out")
		}
	}
}

// A box of another log, in the same place, hangs on another box ahead, or on none.
func TestBoxesOfAnotherLog(t *testing.T) {
	l, other := nineOps(), nineOps()
	other[0] = addOf("v")
	boxes, others := knownBoxes(logKey, textsOf(l)), knownBoxes(logKey, textsOf(other))
	for place := 1; place < len(l); place++ {
		mixed := slices.Concat(boxes[:place], others[place:])
		checkRead(t, logKey, strings.Join(mixed, ""), l[:place], lengthOf(boxes[:place]), "the end of another log")
	}
	second := knownBox(logKey, 2, noBox, knownPadded("all u", 64))
	checkRead(t, logKey, boxes[0]+framed(second), l[:1], lengthOf(boxes[:1]), "a second box as if none were ahead")
	first := knownBox(logKey, 2, noBox, knownPadded("add u", 64))
	checkRead(t, logKey, framed(first), nil, 0, "a second box ahead of all")
	zero := knownBox(logKey, 0, noBox, knownPadded("add u", 64))
	checkRead(t, logKey, framed(zero), nil, 0, "box 0")
	noughts := knownBox(logKey, 1, zeros(16), knownPadded("add u", 64))
	checkRead(t, logKey, framed(noughts), nil, 0, "a first box behind noughts")
}

func TestMoreBehindALog(t *testing.T) {
	l := nineOps()
	log := logOf(t, logKey, l)
	for _, more := range []string{"\x00", "\x00\x00", "\x00\x01", zeros(3), zeros(94), "\xff", "\xff\xff", strings.Repeat("\xff", 70000), "\x00\x5c", "\x00\x5c" + zeros(92), "\n", "add u"} {
		checkRead(t, logKey, log+more, l, int64(len(log)), "more behind it")
		checkRead(t, logKey, more+log, nil, 0, "more ahead of it")
	}
	checkRead(t, logKey, log+log, l, int64(len(log)), "the log once more")
}

func TestMoreBoxesThanALogIsMadeOf(t *testing.T) {
	l := manyAdds(1003)
	boxes := knownBoxes(logKey, textsOf(l))
	for _, n := range []int{200, 201, 255, 256, 257, 400, 401, 500, 501, 999, 1000, 1001, 1002, 1003} {
		most := min(n, 1000)
		checkRead(t, logKey, strings.Join(boxes[:n], ""), l[:most], lengthOf(boxes[:most]), fmt.Sprintf("%d boxes", n))
	}
	whole := strings.Join(boxes, "")
	checkRead(t, logKey, whole[:lengthOf(boxes[:1000])-1], l[:999], lengthOf(boxes[:999]), "the last box is cut off")
	checkRead(t, logKey, whole[:lengthOf(boxes[:1000])]+"\xff", l[:1000], lengthOf(boxes[:1000]), "1000 boxes and a byte")
}

func TestLogsOfManyBytes(t *testing.T) {
	l := nineOps()
	log := logOf(t, logKey, l)
	end := int64(len(log))
	for _, fill := range []string{"\x00", "\xff"} {
		room := strings.Repeat(fill, 700001-len(log))
		checkRead(t, logKey, log+room[2:], l, end, "699999 bytes")
		checkRead(t, logKey, log+room[1:], l, end, "700000 bytes")
		checkRead(t, logKey, log+room, nil, -1, "700001 bytes")
		checkRead(t, logKey, log+room+room, nil, -1, "many more bytes")
		checkRead(t, logKey, strings.Repeat(fill, 700000), nil, 0, "700000 bytes without a box")
		checkRead(t, logKey, strings.Repeat(fill, 700001), nil, -1, "700001 bytes without a box")
	}
}

// 225 of the longest boxes are all that 700000 bytes have room for; short ones fill them up.
func TestLogsFullOfBoxes(t *testing.T) {
	l := append(manyFetches(225), manyAdds(21)...)
	boxes := knownBoxes(logKey, textsOf(l))
	log := strings.Join(boxes, "")
	if len(log) != 699924 {
		t.Fatalf("%d bytes", len(log))
	}
	checkRead(t, logKey, log, l, 699924, "246 boxes")
	checkRead(t, logKey, log+zeros(76), l, 699924, "246 boxes in 700000 bytes")
	checkRead(t, logKey, log+zeros(77), nil, -1, "246 boxes in 700001 bytes")
}

// logWith is a right log of two operations, a box behind it that is right but for its text, and one behind that.
func logWith(padded string) (string, []impl.Op, int64) {
	l := manyAdds(2)
	log := knownLog(logKey, l)
	odd := knownBox(logKey, 3, log[len(log)-16:], padded)
	next := knownBox(logKey, 4, odd[len(odd)-16:], knownPadded("add w", 64))
	return log + framed(odd) + framed(next), l, int64(len(log))
}

func TestBoxesWhoseTextIsNoOperation(t *testing.T) {
	texts := []string{
		"", " ", "add", "add ", "add u v", "add  u", " add u", "add u ", "add u\n", "Add u", "fly u", "read u", "read u 1 2", "purge 2026-02-30", "fetch u", "fetch <feed url=\"u\"><title></title>",
		"add u\x80", "add u\x00", "add u\x80\x00", "\x80", zeros(63), "add " + strings.Repeat("u", 21), "add u\x80add v", strings.Repeat("a", 3000), strings.Repeat("a", 3900),
	}
	for _, o := range []impl.Op{fetchOf(feedOf(13)), fetchOf(impl.Feed{}), markOf(impl.OpStar, "u", "123456789"), purgeOf(200001)} {
		texts = append(texts, knownOpText(o))
	}
	for _, text := range texts {
		log, l, end := logWith(knownPadded(text, 64))
		checkRead(t, logKey, log, l, end, fmt.Sprintf("a text %.40q", text))
		alone := framed(knownBox(logKey, 1, noBox, knownPadded(text, 64)))
		checkRead(t, logKey, alone, nil, 0, fmt.Sprintf("a text %.40q alone", text))
	}
	log, l, _ := logWith(knownPadded("add v", 64))
	checkRead(t, logKey, log, append(l, addOf("v"), addOf("w")), int64(len(log)), "a text that is one")
}

// LogOf pads in one way only; what is padded in another is no box of it, though it can be opened.
func TestBoxesThatArePaddedInAnotherWay(t *testing.T) {
	for _, to := range []int{1, 2, 4, 8, 16, 32, 128, 192, 256} {
		log, l, end := logWith(knownPadded("add v", to))
		checkRead(t, logKey, log, l, end, fmt.Sprintf("padded to %d", to))
	}
	for _, padded := range []string{"add v", "add v" + zeros(59), "add v\x80", "add v\x80\x80" + zeros(57), "add v\x81" + zeros(58), "add v\x80" + zeros(57) + "\x01", zeros(64), "", "\x80" + zeros(63), knownPadded("add v", 64) + zeros(1)} {
		log, l, end := logWith(padded)
		checkRead(t, logKey, log, l, end, fmt.Sprintf("padded as %q", padded))
	}
}

// The nonce of a box is that of its text: another one seals as well, but LogOf does not make it.
func TestBoxesWithAnotherNonce(t *testing.T) {
	padded := knownPadded("add u", 64)
	right := knownHmac(logKey, knownBeside(1, noBox)+padded)[:12]
	for _, nonce := range []string{zeros(12), turned(right, 0), turned(right, 95), knownHmac(logKey, padded)[:12], knownHmac(logKey, knownBeside(2, noBox)+padded)[:12]} {
		box := nonce + impl.Sealed(logKey, nonce, knownBeside(1, noBox), padded)
		checkRead(t, logKey, framed(box), nil, 0, "another nonce")
	}
	box := right + impl.Sealed(logKey, right, knownBeside(1, noBox), padded)
	checkRead(t, logKey, framed(box), []impl.Op{addOf("u")}, 94, "the right nonce")
}

func TestBoxesThatAreTooSmall(t *testing.T) {
	for n := range 93 {
		checkRead(t, logKey, framed(zeros(n)), nil, 0, "noughts")
	}
	tag := impl.Sealed(logKey, zeros(12), knownBeside(1, noBox), "")
	checkRead(t, logKey, framed(zeros(12)+tag), nil, 0, "a box without a text")
	for n := range 16 {
		checkRead(t, logKey, framed(zeros(12)+tag[:n]), nil, 0, "a part of a tag")
	}
	for _, s := range []string{"", "\x00", "\x00\x5c", "\x01", "\xff\xff"} {
		checkRead(t, logKey, s, nil, 0, "no box at all")
	}
}

func TestLogsOfAnotherKey(t *testing.T) {
	l := nineOps()
	log := logOf(t, logKey, l)
	for bit := range 8 * 32 {
		checkRead(t, turned(logKey, bit), log, nil, 0, "a bit of the key")
	}
	for _, n := range []int{0, 1, 16, 31, 33, 64, 4000} {
		checkRead(t, countedText(n), log, nil, -1, fmt.Sprintf("a key of %d bytes", n))
		checkRead(t, countedText(n), "", nil, -1, fmt.Sprintf("a key of %d bytes, no log", n))
		checkRead(t, countedText(n), zeros(700001), nil, -1, fmt.Sprintf("a key of %d bytes, too long a log", n))
	}
	checkRead(t, logKey, "", nil, 0, "no log")
}

func TestLogsAtTheSameTime(t *testing.T) {
	l := namedOps(fixedRandom(), 20)
	log := knownLog(logKey, l)
	var group sync.WaitGroup
	for range 8 {
		group.Go(func() {
			for range 20 {
				if got, end := impl.ReadLog(logKey, log); impl.LogOf(logKey, l) != log || !sameOps(got, l) || end != int64(len(log)) {
					t.Error("the same arguments have another answer")
				}
			}
		})
	}
	group.Wait()
}
