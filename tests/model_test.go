package tests

import (
	"crypto/sha256"
	"encoding/hex"
	"math/big"
	"slices"
	"strconv"
	"strings"

	"loop.example/cordillera/impl"
)

// The models below answer as the document says, each in another way than the program.

func modelSum(s string) string {
	all := sha256.Sum256([]byte(s))
	return hex.EncodeToString(all[:8])
}

func modelIsSum(s string) bool {
	return len(s) == 16 && strings.Trim(s, "0123456789abcdef") == ""
}

func modelIsItem(s string) bool {
	return len(s) >= 1 && len(s) <= 8 && strings.Trim(s, "0123456789abcdefghijklmnopqrstuvwxyz") == ""
}

func modelAreItems(items []string) bool {
	for _, item := range items {
		if !modelIsItem(item) {
			return false
		}
	}
	return len(items) <= 40
}

func modelHead(s string) int {
	if !modelIsSum(s) {
		return -1
	}
	n, err := strconv.ParseUint(s[:8], 16, 32)
	if err != nil {
		return -1
	}
	return int(n / 2)
}

func modelVarPut(n int) string {
	if n < 0 || n > 2147483647 {
		return ""
	}
	if n < 128 {
		return string([]byte{byte(n)})
	}
	return string([]byte{byte(n%128 + 128)}) + modelVarPut(n/128)
}

func modelVarGet(s string) (int, int) {
	end := 0
	for end < len(s) && s[end] >= 128 {
		end++
	}
	if end == len(s) || end > 4 || end > 0 && s[end] == 0 {
		return 0, 0
	}
	n := 0
	for i := end; i >= 0; i-- {
		n = n*128 + int(s[i]%128)
	}
	if n > 2147483647 {
		return 0, 0
	}
	return n, end + 1
}

// modelRaw writes numbers in bits, whatever they are and however many.
func modelRaw(list []int, bits int) string {
	var all strings.Builder
	for _, n := range list {
		size := 1 << bits
		all.WriteString(strings.Repeat("1", n/size) + "0")
		if bits > 0 {
			rest := strconv.FormatInt(int64(n%size), 2)
			all.WriteString(strings.Repeat("0", bits-len(rest)) + rest)
		}
	}
	return packBits(all.String())
}

// packBits is figures 0 and 1 as bytes, the last one filled with noughts.
func packBits(s string) string {
	out := make([]byte, (len(s)+7)/8)
	for i := range len(s) {
		if s[i] == '1' {
			out[i/8] |= 128 >> (i % 8)
		}
	}
	return string(out)
}

// openBits is the bits of a text as figures 0 and 1.
func openBits(s string) string {
	out := ""
	for _, b := range []byte(s) {
		part := strconv.FormatUint(uint64(b), 2)
		out += strings.Repeat("0", 8-len(part)) + part
	}
	return out
}

func modelRicePut(list []int, bits int) string {
	if len(list) > 40 || bits < 0 || bits > 8 {
		return ""
	}
	for _, n := range list {
		if n < 0 || n > 60000 {
			return ""
		}
	}
	return modelRaw(list, bits)
}

func modelRiceGet(s string, many int, bits int) ([]int, bool) {
	if len(s) > 600 || many < 0 || many > 40 || bits < 0 || bits > 8 {
		return nil, false
	}
	text := openBits(s)
	var list []int
	for range many {
		ones := strings.IndexByte(text, '0')
		if ones < 0 || len(text) < ones+1+bits {
			return nil, false
		}
		n := ones << bits
		if bits > 0 {
			rest, _ := strconv.ParseUint(text[ones+1:ones+1+bits], 2, 16)
			n += int(rest)
		}
		if n > 60000 {
			return nil, false
		}
		list = append(list, n)
		text = text[ones+1+bits:]
	}
	if len(text) > 7 || strings.Trim(text, "0") != "" {
		return nil, false
	}
	return list, true
}

func modelTo(key string, item string, below int) int {
	if !modelIsSum(key) || !modelIsItem(item) || below < 1 || below > 60000 {
		return -1
	}
	n := big.NewInt(int64(modelHead(modelSum(key + " " + item))))
	n.Mul(n, big.NewInt(int64(below)))
	return int(n.Rsh(n, 31).Int64())
}

func modelOf(key string, items []string) string {
	if !modelIsSum(key) || !modelAreItems(items) {
		return ""
	}
	seen := map[string]bool{}
	for _, item := range items {
		seen[item] = true
	}
	var places []int
	for item := range seen {
		places = append(places, modelTo(key, item, len(seen)*37))
	}
	slices.Sort(places)
	for i := len(places) - 1; i > 0; i-- {
		places[i] -= places[i-1]
	}
	return modelVarPut(len(seen)) + modelRaw(places, 5)
}

func modelGet(s string) ([]int, bool) {
	many, size := modelVarGet(s)
	if len(s) > 600 || size == 0 || many > 40 {
		return nil, false
	}
	list, ok := modelRiceGet(s[size:], many, 5)
	for i := 1; i < len(list); i++ {
		list[i] += list[i-1]
	}
	if !ok || len(list) > 0 && list[len(list)-1] >= many*37 {
		return nil, false
	}
	return list, true
}

func modelHas(s string, key string, item string) bool {
	list, _ := modelGet(s)
	return modelIsSum(key) && modelIsItem(item) && slices.Contains(list, modelTo(key, item, len(list)*37))
}

func modelAny(s string, key string, items []string) bool {
	return modelAreItems(items) && slices.ContainsFunc(items, func(item string) bool { return modelHas(s, key, item) })
}

// dice is numbers that look thrown and are the same each time.
type dice struct{ state uint64 }

func (d *dice) below(n int) int {
	d.state = d.state*6364136223846793005 + 1442695040888963407
	return int((d.state >> 33) % uint64(n))
}

func (d *dice) text(long int) string {
	out := make([]byte, long)
	for i := range out {
		out[i] = byte(d.below(256))
	}
	return string(out)
}

func (d *dice) item() string {
	const letters = "abcdefghijklmnopqrstuvwxyz0123456789"
	out := ""
	for range 1 + d.below(impl.ItemLong) {
		out += letters[d.below(len(letters)):][:1]
	}
	return out
}

func (d *dice) items(many int) []string {
	var out []string
	for range many {
		out = append(out, d.item())
	}
	return out
}

// numbered is items i0, i1 and so on, all different.
func numbered(many int) []string {
	var out []string
	for i := range many {
		out = append(out, "i"+strconv.Itoa(i))
	}
	return out
}
