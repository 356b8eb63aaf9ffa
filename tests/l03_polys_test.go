package tests

import (
	"math/big"
	"math/rand"
	"slices"
	"strings"
	"testing"

	"loop.example/g00569/impl"
)

func prime() *big.Int {
	p := new(big.Int).Lsh(big.NewInt(1), 130)
	return p.Sub(p, big.NewInt(5))
}

func bigOf(s string) *big.Int {
	b := []byte(s)
	slices.Reverse(b)
	return new(big.Int).SetBytes(b)
}

// lowFirst answers the lowest n bytes of a number.
func lowFirst(x *big.Int, n int) string {
	rest := new(big.Int).Mod(x, new(big.Int).Lsh(big.NewInt(1), uint(8*n)))
	b := rest.FillBytes(make([]byte, n))
	slices.Reverse(b)
	return string(b)
}

func numText(x *big.Int) string {
	return lowFirst(x, 17)
}

func powerOfTwo(n uint) *big.Int {
	return new(big.Int).Lsh(big.NewInt(1), n)
}

// edgeNums are at both ends, around the halves, and around each place where a byte or a part of a few bits may end.
func edgeNums() []string {
	var l []string
	for by := range int64(7) {
		l = append(l, numText(big.NewInt(by)), numText(new(big.Int).Sub(prime(), big.NewInt(by+1))))
	}
	half := new(big.Int).Rsh(prime(), 1)
	for by := int64(-1); by <= 2; by++ {
		l = append(l, numText(new(big.Int).Add(half, big.NewInt(by))))
	}
	for _, bit := range []uint{8, 25, 26, 27, 32, 44, 51, 52, 63, 64, 65, 78, 88, 96, 103, 104, 120, 127, 128, 129} {
		one := powerOfTwo(bit)
		l = append(l, numText(one), numText(new(big.Int).Sub(one, big.NewInt(1))), numText(new(big.Int).Sub(prime(), one)))
	}
	return l
}

func randomNum(r *rand.Rand) string {
	return numText(new(big.Int).Rand(r, prime()))
}

func manyNums() []string {
	r := fixedRandom()
	l := edgeNums()
	for range 40 {
		l = append(l, randomNum(r))
	}
	return l
}

// notNums are as long as a number and too high, or not as long.
func notNums() []string {
	var l []string
	for by := range int64(7) {
		l = append(l, numText(new(big.Int).Add(prime(), big.NewInt(by))))
	}
	for c := 4; c < 256; c++ {
		l = append(l, zeros(16)+string([]byte{byte(c)}))
	}
	l = append(l, strings.Repeat("\xff", 17))
	for _, n := range []int{0, 1, 15, 16, 18, 32, 34, 4000} {
		l = append(l, zeros(n))
	}
	return l
}

func TestNumOkBelowThePrimeAlone(t *testing.T) {
	for _, s := range manyNums() {
		if !impl.NumOk(s) {
			t.Errorf("%x is not right", s)
		}
	}
	for _, s := range notNums() {
		if impl.NumOk(s) {
			t.Errorf("%x is right", s)
		}
	}
}

// A byte that is lower than the prime's makes the number lower, whatever stands in the bytes below it.
func TestNumOkAsksTheHighestByteFirst(t *testing.T) {
	p := numText(prime())
	for place := range 17 {
		low := []byte(p)
		low[place]--
		for i := range place {
			low[i] = 255
		}
		if !impl.NumOk(string(low)) {
			t.Errorf("%x is not right", low)
		}
	}
}

func TestSumsAndProductsAreWhatIsLeft(t *testing.T) {
	l := manyNums()
	for _, a := range l {
		for _, b := range l {
			sum := new(big.Int).Add(bigOf(a), bigOf(b))
			if got, want := impl.NumAdd(a, b), numText(sum.Mod(sum, prime())); got != want {
				t.Fatalf("NumAdd(%x, %x) = %x, want %x", a, b, got, want)
			}
			product := new(big.Int).Mul(bigOf(a), bigOf(b))
			if got, want := impl.NumMul(a, b), numText(product.Mod(product, prime())); got != want {
				t.Fatalf("NumMul(%x, %x) = %x, want %x", a, b, got, want)
			}
		}
	}
}

func TestSumsAndProductsInEitherOrder(t *testing.T) {
	l := manyNums()
	for _, a := range l {
		for _, b := range l {
			sum, product := impl.NumAdd(a, b), impl.NumMul(a, b)
			if !impl.NumOk(sum) || impl.NumAdd(b, a) != sum {
				t.Fatalf("the sum of %x and %x is not the same in either order", a, b)
			}
			if !impl.NumOk(product) || impl.NumMul(b, a) != product {
				t.Fatalf("the product of %x and %x is not the same in either order", a, b)
			}
		}
	}
}

func checkGroups(t *testing.T, a string, b string, c string) {
	t.Helper()
	if impl.NumAdd(impl.NumAdd(a, b), c) != impl.NumAdd(a, impl.NumAdd(b, c)) {
		t.Fatalf("sums of %x, %x, %x in other groups", a, b, c)
	}
	if impl.NumMul(impl.NumMul(a, b), c) != impl.NumMul(a, impl.NumMul(b, c)) {
		t.Fatalf("products of %x, %x, %x in other groups", a, b, c)
	}
	if impl.NumMul(a, impl.NumAdd(b, c)) != impl.NumAdd(impl.NumMul(a, b), impl.NumMul(a, c)) {
		t.Fatalf("the product of %x with the sum of %x and %x is not the sum of both products", a, b, c)
	}
}

func TestSumsAndProductsInWhateverGroups(t *testing.T) {
	l := edgeNums()[:18]
	for _, a := range l {
		for _, b := range l {
			for _, c := range l {
				checkGroups(t, a, b, c)
			}
		}
	}
	r := fixedRandom()
	all := manyNums()
	for range 5000 {
		checkGroups(t, all[r.Intn(len(all))], all[r.Intn(len(all))], all[r.Intn(len(all))])
	}
}

func TestNoughtAndOne(t *testing.T) {
	nought, one := numText(big.NewInt(0)), numText(big.NewInt(1))
	for _, a := range manyNums() {
		if impl.NumAdd(a, nought) != a || impl.NumMul(a, one) != a || impl.NumMul(a, nought) != nought {
			t.Errorf("%x with 0 or 1", a)
		}
		rest := new(big.Int).Sub(prime(), bigOf(a))
		if a != nought && impl.NumAdd(a, numText(rest)) != nought {
			t.Errorf("%x and what is missing up to the prime are not 0", a)
		}
	}
}

func TestNumAddAndNumMulRefuse(t *testing.T) {
	good := append(edgeNums()[:4], randomNum(fixedRandom()))
	for _, bad := range notNums() {
		for _, a := range append(good, bad) {
			for _, pair := range [][2]string{{a, bad}, {bad, a}} {
				if got := impl.NumAdd(pair[0], pair[1]); got != "" {
					t.Errorf("NumAdd(%x, %x) = %x, want nothing", pair[0], pair[1], got)
				}
				if got := impl.NumMul(pair[0], pair[1]); got != "" {
					t.Errorf("NumMul(%x, %x) = %x, want nothing", pair[0], pair[1], got)
				}
			}
		}
	}
}

// The rows are those of RFC 8439, among them those whose sums come near the prime.
func TestTagsOfTheStandard(t *testing.T) {
	one, two := "01"+strings.Repeat("00", 31), "02"+strings.Repeat("00", 31)
	ones := strings.Repeat("ff", 16)
	wide := "0100000000000000" + "0400000000000000" + strings.Repeat("00", 16)
	wideText := "e33594d7505e43b90000000000000000" + "3394d7505e4379cd0100000000000000" + strings.Repeat("00", 16)
	rows := [][3]string{
		{strings.Repeat("00", 32), strings.Repeat("00", 64), strings.Repeat("00", 16)},
		{"85d6be7857556d337f4452fe42d506a80103808afb0db2fd4abff6af4149f51b", digitsOf("Cryptographic Forum Research Group"), "a8061dc1305136c6c22b8baf0c0127a9"},
		{two, ones, "03" + strings.Repeat("00", 15)},
		{two[:32] + ones, "02" + strings.Repeat("00", 15), "03" + strings.Repeat("00", 15)},
		{one, ones + "f0" + ones[2:] + "11" + strings.Repeat("00", 15), "05" + strings.Repeat("00", 15)},
		{one, ones + "fb" + strings.Repeat("fe", 15) + strings.Repeat("01", 16), strings.Repeat("00", 16)},
		{two, "fd" + ones[2:], "fa" + ones[2:]},
		{wide, wideText + "01" + strings.Repeat("00", 15), "14000000000000005500000000000000"},
		{wide, wideText, "13000000000000000000000000000000"},
	}
	for _, row := range rows {
		if got := impl.TagOf(bytesOf(t, row[0]), bytesOf(t, row[1])); digitsOf(got) != row[2] {
			t.Errorf("TagOf(%s, %s) = %x, want %s", row[0], row[1], got, row[2])
		}
	}
}

// bigTag is Poly1305 as the standard tells it, with numbers that have no end.
func bigTag(key string, text string) string {
	mask := bigOf("\xff\xff\xff\x0f\xfc\xff\xff\x0f\xfc\xff\xff\x0f\xfc\xff\xff\x0f")
	factor := new(big.Int).And(bigOf(key[:16]), mask)
	sum := new(big.Int)
	for len(text) > 0 {
		part := text[:min(16, len(text))]
		text = text[len(part):]
		sum.Add(sum, bigOf(part+"\x01"))
		sum.Mul(sum, factor)
		sum.Mod(sum, prime())
	}
	return lowFirst(sum.Add(sum, bigOf(key[16:])), 16)
}

func TestTagsOfEachLength(t *testing.T) {
	r := fixedRandom()
	ones := strings.Repeat("\xff", 32)
	lengths := []int{0, 1, 2, 14, 15, 16, 17, 18, 31, 32, 33, 47, 48, 49, 64, 1000, 4000, 4001, 7984, 7985, 7999, 8000}
	for _, n := range lengths {
		for _, key := range []string{ones, zeros(32), zeros(16) + ones[:16], ones[:16] + zeros(16), randomText(r, 32), randomText(r, 32)} {
			for _, text := range []string{zeros(n), strings.Repeat("\xff", n), countedText(n), randomText(r, n)} {
				got, want := impl.TagOf(key, text), bigTag(key, text)
				if got != want {
					t.Fatalf("TagOf(%x, .. %d bytes) = %x, want %x", key, n, got, want)
				}
				if impl.TagOf(key, text) != got {
					t.Fatalf("TagOf(%x, .. %d bytes) answers twice in two ways", key, n)
				}
			}
		}
	}
}

// Each bit of the key counts, but for those that the standard takes away.
func TestBitsOfTheKeyThatAreTakenAway(t *testing.T) {
	key, text := zeros(32), countedText(40)
	want := impl.TagOf(key, text)
	for place := range 32 {
		for bit := range 8 {
			other := []byte(key)
			other[place] ^= 1 << bit
			gone := place < 16 && (place%4 == 3 && bit >= 4 || place > 0 && place%4 == 0 && bit < 2)
			if same := impl.TagOf(string(other), text) == want; same != gone {
				t.Errorf("bit %d of byte %d of the key: the same tag is %t", bit, place, same)
			}
		}
	}
}

// The byte behind a part tells parts of noughts apart that are not as long.
func TestNoughtsBehindATextMakeAnotherTag(t *testing.T) {
	key := strings.Repeat("\x05", 32)
	seen := map[string]int{}
	for n := range 50 {
		tag := impl.TagOf(key, zeros(n))
		if before, ok := seen[tag]; ok {
			t.Errorf("%d and %d noughts have the same tag", before, n)
		}
		seen[tag] = n
	}
}

func TestTagOfRefuses(t *testing.T) {
	for _, n := range []int{0, 1, 16, 17, 31, 33, 48, 64} {
		if got := impl.TagOf(zeros(n), "text"); got != "" {
			t.Errorf("a key of %d bytes makes a tag", n)
		}
	}
	for _, n := range []int{8001, 8016, 16000} {
		if got := impl.TagOf(zeros(32), zeros(n)); got != "" {
			t.Errorf("a text of %d bytes has a tag", n)
		}
	}
}
