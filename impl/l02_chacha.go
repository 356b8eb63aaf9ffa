package impl

import "math/bits"

const (
	chaKeyBytes   = 32
	chaNonceBytes = 12
	chaBlockBytes = 64
	chaWords      = 16
	chaTimes      = 10
	chaPrefix     = "expand 32-byte k"

	// The blocks of MaxText bytes from here on still have counters that are words.
	maxStreamCounter = 4294960000
)

type chaState [chaWords]uint32

// A chaRound answers the state behind it.
type chaRound func(chaState) chaState

func quarterOf(a, b, c, d uint32) (uint32, uint32, uint32, uint32) {
	a += b
	d = bits.RotateLeft32(d^a, 16)
	c += d
	b = bits.RotateLeft32(b^c, 12)
	a += b
	d = bits.RotateLeft32(d^a, 8)
	c += d
	b = bits.RotateLeft32(b^c, 7)
	return a, b, c, d
}

func Quarter(l []int64) []int64 {
	if len(l) != 4 || !areWords(l) {
		return nil
	}
	a, b, c, d := quarterOf(uint32(l[0]), uint32(l[1]), uint32(l[2]), uint32(l[3]))
	return []int64{int64(a), int64(b), int64(c), int64(d)}
}

func roundAt(a, b, c, d int) chaRound {
	return func(s chaState) chaState {
		s[a], s[b], s[c], s[d] = quarterOf(s[a], s[b], s[c], s[d])
		return s
	}
}

func chaRounds() [8]chaRound {
	return [8]chaRound{
		roundAt(0, 4, 8, 12),
		roundAt(1, 5, 9, 13),
		roundAt(2, 6, 10, 14),
		roundAt(3, 7, 11, 15),
		roundAt(0, 5, 10, 15),
		roundAt(1, 6, 11, 12),
		roundAt(2, 7, 8, 13),
		roundAt(3, 4, 9, 14),
	}
}

func mixed(s chaState) chaState {
	rounds := chaRounds()
	for range chaTimes {
		for _, round := range rounds {
			s = round(s)
		}
	}
	return s
}

func firstState(key string, nonce string, counter int64) chaState {
	var s chaState
	for place, word := range leWords(chaPrefix + key + StoreLe([]int64{counter}) + nonce) {
		s[place] = word
	}
	return s
}

func chaArgsOk(key string, nonce string) bool {
	return len(key) == chaKeyBytes && len(nonce) == chaNonceBytes
}

func ChaBlock(key string, nonce string, counter int64) string {
	if !chaArgsOk(key, nonce) || !isWord(counter) {
		return ""
	}
	first := firstState(key, nonce, counter)
	out := make([]byte, 0, chaBlockBytes)
	for place, word := range mixed(first) {
		out = appendLe(out, word+first[place])
	}
	return string(out)
}

func ChaStream(key string, nonce string, counter int64, text string) string {
	if !chaArgsOk(key, nonce) || counter < 0 || counter > maxStreamCounter || len(text) > MaxText {
		return ""
	}
	out := make([]byte, 0, len(text))
	for len(out) < len(text) {
		part := text[len(out):min(len(out)+chaBlockBytes, len(text))]
		out = append(out, Xor(part, ChaBlock(key, nonce, counter)[:len(part)])...)
		counter++
	}
	return string(out)
}
