package tests

import (
	"slices"
	"strings"
	"testing"
	"unsafe"

	"loop.example/cordillera/impl"
)

// guarded is a list with marks behind its end, and a check that neither changed.
func guarded[T comparable](t *testing.T, mark T, list ...T) ([]T, func(what string)) {
	all := append(slices.Clone(list), slices.Repeat([]T{mark}, 8)...)
	was := slices.Clone(all)
	return all[:len(list)], func(what string) {
		t.Helper()
		if !slices.Equal(all, was) {
			t.Errorf("%s wrote into its argument, or behind it: %v, not %v", what, all, was)
		}
	}
}

func TestNothingIsWrittenIntoAnArgument(t *testing.T) {
	key := impl.SumOf("key")
	for _, nums := range [][]int{{}, {9, 3, 3, 70}, {5, -1}, slices.Repeat([]int{7}, impl.ListMax), slices.Repeat([]int{7}, impl.ListMax+1)} {
		list, check := guarded(t, -77, nums...)
		for bits := -1; bits <= 9; bits++ {
			impl.RicePut(list, bits)
			check("RicePut")
		}
	}
	for _, texts := range [][]string{{}, {"z", "b", "z", "a", "b"}, {"z", "A", "a"}, slices.Repeat([]string{"b", "a"}, impl.ListMax/2), numbered(impl.ListMax + 1)} {
		items, check := guarded(t, "mark", texts...)
		s := impl.FilterOf(key, items)
		check("FilterOf")
		impl.FilterOf("key", items)
		check("FilterOf by a wrong key")
		impl.FilterAny(s, key, items)
		check("FilterAny")
		impl.FilterAny("\x01", key, items)
		check("FilterAny by a wrong filter")
	}
}

// spoil overwrites a list and its spare room.
func spoil[T any](list []T, with T) {
	list = list[:cap(list)]
	for i := range list {
		list[i] = with
	}
}

func TestAnAnswerIsNewMemory(t *testing.T) {
	key := impl.SumOf("key")
	s := impl.FilterOf(key, numbered(5))
	want, _ := modelGet(s)
	steps, _ := modelRiceGet(s[1:], 5, impl.FilterBits)
	for range 3 {
		first, _ := impl.FilterGet(s)
		second, _ := impl.FilterGet(s)
		spoil(first, -99)
		if !slices.Equal(second, want) {
			t.Fatalf("FilterGet shares memory: %d, not %d", second, want)
		}
		first, _ = impl.RiceGet(s[1:], 5, impl.FilterBits)
		second, _ = impl.RiceGet(s[1:], 5, impl.FilterBits)
		spoil(first, -99)
		if !slices.Equal(second, steps) {
			t.Fatalf("RiceGet shares memory: %d, not %d", second, steps)
		}
		none, _ := impl.FilterGet("\x00")
		spoil(none, -99)
		none, _ = impl.RiceGet("", 0, 5)
		spoil(none, -99)
	}
}

// looseText is a text, and a function that overwrites its bytes.
func looseText(s string) (string, func()) {
	b := []byte(s)
	return unsafe.String(unsafe.SliceData(b), len(b)), func() { clear(b) }
}

func TestAnAnswerSharesNoText(t *testing.T) {
	key, keyGone := looseText(impl.SumOf("key"))
	item, itemGone := looseText("abcdefgh")
	list := []int{5, 0, 9}
	answers := []string{impl.SumOf(key), impl.SumOf(item), impl.FilterOf(key, []string{item}), impl.FilterOf(key, []string{item, "a", item}), impl.RicePut(list, 2)}
	was := make([]string, len(answers))
	for i, s := range answers {
		was[i] = strings.Clone(s)
	}
	filter, filterGone := looseText(answers[3])
	places, _ := impl.FilterGet(filter)
	wasPlaces := slices.Clone(places)
	keyGone()
	itemGone()
	filterGone()
	clear(list)
	if !slices.Equal(answers, was) || !slices.Equal(places, wasPlaces) {
		t.Errorf("an answer changed with an argument: %q, not %q", answers, was)
	}
}

func TestNothingIsKeptBetweenCalls(t *testing.T) {
	key, items := impl.SumOf("key"), numbered(9)
	sum, filter := impl.SumOf("abc"), impl.FilterOf(key, items)
	impl.SumOf(strings.Repeat("x", 1000))
	impl.FilterOf(impl.SumOf("other"), numbered(40))
	impl.FilterOf("key", nil)
	impl.RiceGet("\xff", 1, 0)
	impl.RicePut([]int{1, 2, 3}, 3)
	if impl.SumOf("abc") != sum || impl.FilterOf(key, items) != filter {
		t.Error("an answer hangs on the calls ahead")
	}
}
