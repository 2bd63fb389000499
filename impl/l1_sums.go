package impl

import (
	"math"
	"strings"
)

// How sums and numbers in bytes are made.
const (
	sumFigures = "0123456789abcdef"
	sumLong    = 16
	sumBlock   = 64
	sumHeads   = 1 << 31
	varMax     = math.MaxInt32
	varLong    = 5
)

// sumRounds holds what SHA-256 adds in each of its rounds.
var sumRounds = [64]sumWord{
	0x428a2f98, 0x71374491, 0xb5c0fbcf, 0xe9b5dba5, 0x3956c25b, 0x59f111f1, 0x923f82a4, 0xab1c5ed5,
	0xd807aa98, 0x12835b01, 0x243185be, 0x550c7dc3, 0x72be5d74, 0x80deb1fe, 0x9bdc06a7, 0xc19bf174,
	0xe49b69c1, 0xefbe4786, 0x0fc19dc6, 0x240ca1cc, 0x2de92c6f, 0x4a7484aa, 0x5cb0a9dc, 0x76f988da,
	0x983e5152, 0xa831c66d, 0xb00327c8, 0xbf597fc7, 0xc6e00bf3, 0xd5a79147, 0x06ca6351, 0x14292967,
	0x27b70a85, 0x2e1b2138, 0x4d2c6dfc, 0x53380d13, 0x650a7354, 0x766a0abb, 0x81c2c92e, 0x92722c85,
	0xa2bfe8a1, 0xa81a664b, 0xc24b8b70, 0xc76c51a3, 0xd192e819, 0xd6990624, 0xf40e3585, 0x106aa070,
	0x19a4c116, 0x1e376c08, 0x2748774c, 0x34b0bcb5, 0x391c0cb3, 0x4ed8aa4a, 0x5b9cca4f, 0x682e6ff3,
	0x748f82ee, 0x78a5636f, 0x84c87814, 0x8cc70208, 0x90befffa, 0xa4506ceb, 0xbef9a3f7, 0xc67178f2,
}

// sumWord is a word of SHA-256; what is added to it wraps round at 32 bits, as SHA-256 wants it.
type sumWord uint32

// turn moves bits to the right; those that fall out come in again on the left.
func (w sumWord) turn(by uint) sumWord {
	return w>>by | w<<(32-by)
}

// near mixes a word of the schedule into the one fifteen behind it.
func (w sumWord) near() sumWord {
	return w.turn(7) ^ w.turn(18) ^ w>>3
}

// far mixes a word of the schedule into the one two behind it.
func (w sumWord) far() sumWord {
	return w.turn(17) ^ w.turn(19) ^ w>>10
}

// first mixes the first word of a state.
func (w sumWord) first() sumWord {
	return w.turn(2) ^ w.turn(13) ^ w.turn(22)
}

// fifth mixes the fifth word of a state.
func (w sumWord) fifth() sumWord {
	return w.turn(6) ^ w.turn(11) ^ w.turn(25)
}

// choose takes each bit from a word where w has 1, and from another one where it has 0.
func (w sumWord) choose(ones, noughts sumWord) sumWord {
	return w&ones ^ ^w&noughts
}

// most takes each bit as most of three words have it.
func (w sumWord) most(a, b sumWord) sumWord {
	return w&a ^ w&b ^ a&b
}

// figures writes a word in eight figures of base 16.
func (w sumWord) figures() string {
	var out strings.Builder
	for range 8 {
		out.WriteByte(sumFigures[w>>28])
		w <<= 4
	}
	return out.String()
}

// SumOf is the first half of a half of SHA-256 of a text, in figures of base 16.
func SumOf(s string) string {
	state := [8]sumWord{
		0x6a09e667, 0xbb67ae85, 0x3c6ef372, 0xa54ff53a,
		0x510e527f, 0x9b05688c, 0x1f83d9ab, 0x5be0cd19,
	}
	text := sumPadded(s)
	for at := 0; at < len(text); at += sumBlock {
		state = sumNext(state, sumSchedule(text[at:at+sumBlock]))
	}
	return state[0].figures() + state[1].figures()
}

// sumPadded is a text in whole blocks: behind it a bit 1, noughts, and how many bits it has.
func sumPadded(s string) []byte {
	text := append([]byte(s), 128)
	for len(text)%sumBlock != sumBlock-8 {
		text = append(text, 0)
	}
	many := uint64(len(s)) * 8
	for range 8 {
		text = append(text, byte(many>>56))
		many <<= 8
	}
	return text
}

// sumSchedule is the words that the rounds of a block take in, one each.
func sumSchedule(block []byte) [64]sumWord {
	var words [64]sumWord
	for i, b := range block {
		words[i/4] = words[i/4]<<8 | sumWord(b)
	}
	for i := 16; i < len(words); i++ {
		words[i] = words[i-16] + words[i-15].near() + words[i-7] + words[i-2].far()
	}
	return words
}

// sumNext is the state behind a block.
func sumNext(state [8]sumWord, words [64]sumWord) [8]sumWord {
	now := state
	for i, word := range words {
		in := now[7] + now[4].fifth() + now[4].choose(now[5], now[6]) + sumRounds[i] + word
		out := now[0].first() + now[0].most(now[1], now[2])
		now = [8]sumWord{in + out, now[0], now[1], now[2], now[3] + in, now[4], now[5], now[6]}
	}
	for i := range state {
		state[i] += now[i]
	}
	return state
}

// sumOk says whether a text is a sum.
func sumOk(s string) bool {
	if len(s) != sumLong {
		return false
	}
	for i := range len(s) {
		if strings.IndexByte(sumFigures, s[i]) < 0 {
			return false
		}
	}
	return true
}

// SumHead is the first bits of a sum, as a number.
func SumHead(s string) int {
	if !sumOk(s) {
		return -1
	}
	var head uint32
	for i := range 8 {
		head = head<<4 | uint32(strings.IndexByte(sumFigures, s[i]))
	}
	return int(head >> 1)
}

// VarPut writes a number in bytes.
func VarPut(n int) string {
	if n < 0 || n > varMax {
		return ""
	}
	var out strings.Builder
	for n >= 128 {
		out.WriteByte(byte(n%128 + 128))
		n /= 128
	}
	out.WriteByte(byte(n))
	return out.String()
}

// VarGet reads a number in bytes, and how many they are.
func VarGet(s string) (int, int) {
	n := 0
	for i := 0; i < len(s) && i < varLong; i++ {
		n |= int(s[i]%128) << (7 * i)
		if s[i] >= 128 {
			continue
		}
		// Writing it again tells what has needless bytes, or is too great.
		if VarPut(n) != s[:i+1] {
			return 0, 0
		}
		return n, i + 1
	}
	return 0, 0
}
