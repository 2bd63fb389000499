package impl

import (
	"iter"
	"slices"
	"strings"
)

// Limits of numbers and items, and what filters are made by.
const (
	RiceMax    = 60000
	ListMax    = 40
	BytesMax   = 600
	ItemLong   = 8
	FilterMany = 37
	FilterBits = 5
)

// riceBitsMax is how many bits what is left of a number has at most.
const riceBitsMax = 8

// riceWriter is a text that is written bit by bit.
type riceWriter struct {
	strings.Builder
	open byte
	many int
}

// bit writes a bit; those that do not fill a byte yet wait.
func (w *riceWriter) bit(bit int) {
	w.open = w.open<<1 | byte(bit)
	w.many++
	if w.many == 8 {
		w.WriteByte(w.open)
		w.open, w.many = 0, 0
	}
}

// number writes a number.
func (w *riceWriter) number(n int, bits int) {
	for range n >> bits {
		w.bit(1)
	}
	w.bit(0)
	for i := bits - 1; i >= 0; i-- {
		w.bit(n >> i & 1)
	}
}

// fill writes noughts until no bit waits.
func (w *riceWriter) fill() {
	for w.many > 0 {
		w.bit(0)
	}
}

// riceReader is a number of which not all bits have been read yet.
type riceReader struct {
	bits int
	n    int
	rest bool
	left int
}

// take reads a bit, and tells the number with its last one.
func (r *riceReader) take(bit int) (int, bool) {
	switch {
	case r.rest:
		r.n = r.n<<1 | bit
		r.left--
	case bit == 1:
		r.n++
		return 0, false
	default:
		r.rest = true
		r.left = r.bits
	}
	if r.left > 0 {
		return 0, false
	}
	n := r.n
	*r = riceReader{bits: r.bits}
	return n, true
}

// riceOk says whether numbers can be written in bits.
func riceOk(list []int, bits int) bool {
	if len(list) > ListMax || !riceBitsOk(bits) {
		return false
	}
	for _, n := range list {
		if n < 0 || n > RiceMax {
			return false
		}
	}
	return true
}

// riceBitsOk says whether what is left of a number can have so many bits.
func riceBitsOk(bits int) bool {
	return bits >= 0 && bits <= riceBitsMax
}

// RicePut writes numbers in bits.
func RicePut(list []int, bits int) string {
	if !riceOk(list, bits) {
		return ""
	}
	var out riceWriter
	for _, n := range list {
		out.number(n, bits)
	}
	out.fill()
	return out.String()
}

// riceBits goes through the bits of a text, the highest of each byte first.
func riceBits(s string) iter.Seq[int] {
	return func(yield func(int) bool) {
		for i := range len(s) {
			for shift := 7; shift >= 0; shift-- {
				if !yield(int(s[i]>>shift) & 1) {
					return
				}
			}
		}
	}
}

// riceNumbers is the first numbers of a text, or all, if it has fewer.
func riceNumbers(s string, many int, bits int) []int {
	list := make([]int, 0, many)
	reader := riceReader{bits: bits}
	for bit := range riceBits(s) {
		if len(list) == many {
			break
		}
		if n, ok := reader.take(bit); ok {
			list = append(list, n)
		}
	}
	return list
}

// RiceGet reads numbers in bits.
func RiceGet(s string, many int, bits int) ([]int, bool) {
	if len(s) > BytesMax || many < 0 || many > ListMax || !riceBitsOk(bits) {
		return nil, false
	}
	list := riceNumbers(s, many, bits)
	// Writing them again tells what stands behind them, and what is too great.
	if len(list) != many || RicePut(list, bits) != s {
		return nil, false
	}
	return list, true
}

// itemOk says whether a text is an item.
func itemOk(item string) bool {
	if item == "" || len(item) > ItemLong {
		return false
	}
	for i := range len(item) {
		letter := item[i] >= 'a' && item[i] <= 'z'
		figure := item[i] >= '0' && item[i] <= '9'
		if !letter && !figure {
			return false
		}
	}
	return true
}

// itemsOk says whether items are ok.
func itemsOk(items []string) bool {
	if len(items) > ListMax {
		return false
	}
	for _, item := range items {
		if !itemOk(item) {
			return false
		}
	}
	return true
}

// FilterTo is where an item falls.
func FilterTo(key string, item string, below int) int {
	if !sumOk(key) || !itemOk(item) || below < 1 || below > RiceMax {
		return -1
	}
	head := int64(SumHead(SumOf(key + " " + item)))
	return int(head * int64(below) / sumHeads)
}

// FilterOf is a filter of items.
func FilterOf(key string, items []string) string {
	if !sumOk(key) || !itemsOk(items) {
		return ""
	}
	different := slices.Clone(items)
	slices.Sort(different)
	different = slices.Compact(different)
	places := make([]int, 0, len(different))
	for _, item := range different {
		places = append(places, FilterTo(key, item, len(different)*FilterMany))
	}
	slices.Sort(places)
	return VarPut(len(places)) + RicePut(filterSteps(places), FilterBits)
}

// filterSteps is each place less the one ahead; it is 0 where two items fall to one place.
func filterSteps(places []int) []int {
	steps := make([]int, 0, len(places))
	ahead := 0
	for _, place := range places {
		steps = append(steps, place-ahead)
		ahead = place
	}
	return steps
}

// FilterGet is where a filter's items fall.
func FilterGet(s string) ([]int, bool) {
	many, size := VarGet(s)
	if size == 0 || len(s) > BytesMax {
		return nil, false
	}
	steps, ok := RiceGet(s[size:], many, FilterBits)
	if !ok {
		return nil, false
	}
	places := make([]int, 0, many)
	place := 0
	for _, step := range steps {
		place += step
		if place >= many*FilterMany {
			return nil, false
		}
		places = append(places, place)
	}
	return places, true
}

// FilterHas says whether an item may be in a filter.
func FilterHas(s string, key string, item string) bool {
	places, ok := FilterGet(s)
	if !ok || len(places) == 0 || !sumOk(key) || !itemOk(item) {
		return false
	}
	return slices.Contains(places, FilterTo(key, item, len(places)*FilterMany))
}

// FilterAny says whether one of some items may be in a filter.
func FilterAny(s string, key string, items []string) bool {
	if !itemsOk(items) {
		return false
	}
	for _, item := range items {
		if FilterHas(s, key, item) {
			return true
		}
	}
	return false
}
