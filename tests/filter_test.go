package tests

import (
	"math"
	"slices"
	"strconv"
	"strings"
	"testing"

	"loop.example/cordillera/impl"
)

// wrongItems is texts that are no items, most of them by one byte.
func wrongItems() []string {
	out := []string{"", "abcdefghi", "000000000", strings.Repeat("a", 1000), "\u00e9", "\u0660", "a b"}
	for _, b := range []string{"A", "Z", "/", ":", "`", "{", "@", "[", "-", "_", " ", "\n", "\x00", "\x80", "\xe1", "\xff"} {
		out = append(out, b, b+"a", "a"+b, "aaa"+b+"aaa", "aaaaaaa"+b)
	}
	return out
}

// goodItems is items at the edges of what one is.
func goodItems() []string {
	return []string{"a", "z", "0", "9", "abcdefgh", "zzzzzzzz", "00000000", "a1b2c3d4", "fake"}
}

func TestP7ItemFallsBelow(t *testing.T) {
	d := &dice{state: 7}
	belows := []int{1, 2, 3, 36, 37, 38, 74, 1480, 29999, 30000, 30001, 32768, 59999, impl.RiceMax}
	for range 50 {
		belows = append(belows, 1+d.below(impl.RiceMax))
	}
	for i := range 30 {
		key := impl.SumOf(strconv.Itoa(i))
		for _, item := range append(goodItems(), d.items(5)...) {
			for _, below := range belows {
				at := impl.FilterTo(key, item, below)
				if at != modelTo(key, item, below) || at < 0 || at >= below {
					t.Fatalf("FilterTo of %q, %q, %d is %d", key, item, below, at)
				}
				if twice := impl.FilterTo(key, item, 2*below); 2*below <= impl.RiceMax && twice != 2*at && twice != 2*at+1 {
					t.Fatalf("FilterTo of %q, %q, %d is %d, below twice that it is %d", key, item, below, at, twice)
				}
			}
		}
	}
}

func TestP7ItemsFallEverywhere(t *testing.T) {
	key := impl.SumOf("key")
	seen := map[int]int{}
	for _, item := range numbered(1000) {
		seen[impl.FilterTo(key, item, 10)]++
		if impl.FilterTo(key, item, 1) != 0 {
			t.Errorf("FilterTo of %q below 1", item)
		}
	}
	if len(seen) != 10 {
		t.Errorf("1000 items fall to %d of 10 places", len(seen))
	}
}

func TestP7WhatDoesNotFall(t *testing.T) {
	key := impl.SumOf("key")
	for _, wrong := range wrongSums() {
		if at := impl.FilterTo(wrong, "a", 37); at != -1 {
			t.Errorf("FilterTo by the key %q is %d", wrong, at)
		}
	}
	for _, wrong := range wrongItems() {
		if at := impl.FilterTo(key, wrong, 37); at != -1 {
			t.Errorf("FilterTo of the item %q is %d", wrong, at)
		}
	}
	for _, below := range []int{0, -1, math.MinInt, impl.RiceMax + 1, math.MaxInt} {
		if at := impl.FilterTo(key, "a", below); at != -1 {
			t.Errorf("FilterTo below %d is %d", below, at)
		}
	}
}

// sameFilter holds FilterOf against its model, and asks it for all that was put in.
func sameFilter(t *testing.T, key string, items []string) {
	t.Helper()
	s := impl.FilterOf(key, items)
	if s == "" || s != modelOf(key, items) {
		t.Fatalf("FilterOf of %q, %q is %q, not %q", key, items, s, modelOf(key, items))
	}
	for _, item := range items {
		if !impl.FilterHas(s, key, item) {
			t.Fatalf("FilterHas of FilterOf of %q, %q is false of %q", key, items, item)
		}
	}
}

func TestP8FilterHasAll(t *testing.T) {
	d := &dice{state: 8}
	for many := range impl.ListMax + 1 {
		for i := range 20 {
			key := impl.SumOf(strconv.Itoa(i))
			items := d.items(many)
			sameFilter(t, key, items)
			sameFilter(t, key, numbered(many))
			turned := slices.Clone(items)
			slices.Reverse(turned)
			if impl.FilterOf(key, items) != impl.FilterOf(key, turned) {
				t.Fatalf("FilterOf of %q, %q is another one turned round", key, items)
			}
			if many > impl.ListMax/2 {
				continue
			}
			twice := append(slices.Clone(turned), turned...)
			each := slices.Clone(twice)
			slices.Sort(each)
			if impl.FilterOf(key, items) != impl.FilterOf(key, twice) || impl.FilterOf(key, items) != impl.FilterOf(key, each) {
				t.Fatalf("FilterOf of %q, %q is another one with each twice", key, items)
			}
		}
	}
	sameFilter(t, impl.SumOf("key"), goodItems())
	sameFilter(t, impl.SumOf("key"), slices.Repeat([]string{"a"}, impl.ListMax))
}

// onePlace is items of which two fall to one place, and the key by which they do.
func onePlace(t *testing.T) (string, []string) {
	t.Helper()
	for i := range 1000 {
		key := impl.SumOf(strconv.Itoa(i))
		items := numbered(3)
		places := map[int]int{}
		for _, item := range items {
			places[modelTo(key, item, 3*impl.FilterMany)]++
		}
		if len(places) == 2 {
			return key, items
		}
	}
	t.Fatal("no two items fall to one place")
	return "", nil
}

func TestP8TwoItemsAtOnePlace(t *testing.T) {
	key, items := onePlace(t)
	sameFilter(t, key, items)
	s := impl.FilterOf(key, items)
	list, ok := impl.FilterGet(s)
	if !ok || len(list) != 3 || s[0] != 3 || list[0] != list[1] && list[1] != list[2] {
		t.Errorf("FilterGet of FilterOf is %d and %t", list, ok)
	}
}

func TestP8FilterOfNothing(t *testing.T) {
	key := impl.SumOf("key")
	if impl.FilterOf(key, nil) != "\x00" || impl.FilterOf(key, []string{}) != "\x00" {
		t.Errorf("FilterOf of nothing is %q", impl.FilterOf(key, nil))
	}
	list, ok := impl.FilterGet("\x00")
	if !ok || len(list) != 0 {
		t.Errorf("FilterGet of a filter of nothing is %d and %t", list, ok)
	}
	if impl.FilterHas("\x00", key, "a") || impl.FilterAny("\x00", key, []string{"a"}) || impl.FilterAny("\x00", key, nil) {
		t.Error("a filter of nothing has something")
	}
}

func TestP8WhatIsNoFilter(t *testing.T) {
	key := impl.SumOf("key")
	for _, wrong := range wrongSums() {
		if impl.FilterOf(wrong, []string{"a"}) != "" || impl.FilterOf(wrong, nil) != "" {
			t.Errorf("FilterOf by the key %q", wrong)
		}
	}
	for _, wrong := range wrongItems() {
		for _, items := range [][]string{{wrong}, {wrong, "a", "b"}, {"a", wrong, "b"}, {"a", "b", wrong}} {
			if s := impl.FilterOf(key, items); s != "" {
				t.Errorf("FilterOf of %q is %q", items, s)
			}
		}
	}
	for _, items := range [][]string{numbered(impl.ListMax + 1), slices.Repeat([]string{"a"}, impl.ListMax+1), numbered(1000)} {
		if s := impl.FilterOf(key, items); s != "" {
			t.Errorf("FilterOf of %d items is %q", len(items), s)
		}
	}
}

// sameRead holds FilterGet against its model, and against what promise 9 says.
func sameRead(t *testing.T, s string) {
	t.Helper()
	list, ok := impl.FilterGet(s)
	want, wantOk := modelGet(s)
	if ok != wantOk || !slices.Equal(list, want) {
		t.Fatalf("FilterGet of %q is %d and %t, not %d and %t", s, list, ok, want, wantOk)
	}
	many, _ := impl.VarGet(s)
	if ok && (len(list) != many || !slices.IsSorted(list)) {
		t.Fatalf("FilterGet of %q is %d, not ascending, or not %d", s, list, many)
	}
	for _, at := range list {
		if at < 0 || at >= many*impl.FilterMany {
			t.Fatalf("FilterGet of %q has %d", s, at)
		}
	}
}

func TestP9FilterHasAsManyPlacesAsItTells(t *testing.T) {
	d := &dice{state: 9}
	for many := range impl.ListMax + 1 {
		for i := range 10 {
			s := impl.FilterOf(impl.SumOf(strconv.Itoa(i)), d.items(many))
			sameRead(t, s)
			sameRead(t, s+"\x00")
			sameRead(t, s[:len(s)-1])
			b := []byte(s)
			b[d.below(len(b))] ^= 1 << d.below(8)
			sameRead(t, string(b))
		}
	}
	for a := range 65536 {
		sameRead(t, string([]byte{byte(a >> 8), byte(a)}))
	}
	for a := range 65536 {
		sameRead(t, string([]byte{byte(1 + a%3), byte(a), byte(a >> 8)}))
	}
	for range 5000 {
		sameRead(t, d.text(d.below(9)))
	}
}

func TestP9PlacesAtTheEdge(t *testing.T) {
	for many := 1; many <= impl.ListMax; many++ {
		last := many*impl.FilterMany - 1
		for at := range many {
			steps := make([]int, many)
			steps[at] = last
			s := modelVarPut(many) + modelRaw(steps, impl.FilterBits)
			list, ok := impl.FilterGet(s)
			if !ok || len(list) != many || list[many-1] != last || list[at] != last {
				t.Fatalf("FilterGet of %q is %d and %t", s, list, ok)
			}
			steps[at]++
			s = modelVarPut(many) + modelRaw(steps, impl.FilterBits)
			if list, ok := impl.FilterGet(s); ok || len(list) != 0 {
				t.Fatalf("FilterGet of %q is %d and %t", s, list, ok)
			}
		}
	}
}

func TestP9WhatIsNoFilter(t *testing.T) {
	one := modelRaw([]int{5}, impl.FilterBits)
	if list, ok := impl.FilterGet("\x01" + one); !ok || !slices.Equal(list, []int{5}) {
		t.Errorf("FilterGet of one place is %d and %t", list, ok)
	}
	more := modelRaw(make([]int, impl.ListMax+1), impl.FilterBits)
	wrong := []string{
		"", "\x01", "\x28", "\x80", "\x80\x00", "\x81\x00" + one, "\x00\x00", "\x00" + one,
		"\x01" + one + "\x00", "\x01" + one + one, "\x02" + one,
		"\x29" + more, "\x29", "\xff\xff\xff\xff\x07" + one, "\xff\xff\xff\xff\x08" + one, "\xa8\x00" + modelRaw(make([]int, impl.ListMax), impl.FilterBits),
		"\x01" + modelRaw([]int{4000}, impl.FilterBits),
		"\x28" + strings.Repeat("\x00", impl.BytesMax-1), "\x28" + strings.Repeat("\x00", impl.BytesMax),
		"\x01" + strings.Repeat("\xff", impl.BytesMax), strings.Repeat("\x00", 100000),
	}
	for _, s := range wrong {
		if list, ok := impl.FilterGet(s); ok || len(list) != 0 {
			t.Errorf("FilterGet of %q is %d and %t", s, list, ok)
		}
	}
	sameRead(t, "\x28"+modelRaw(make([]int, impl.ListMax), impl.FilterBits))
}

func TestP10HasJustIfItFallsThere(t *testing.T) {
	d := &dice{state: 10}
	for many := range 12 {
		for i := range 10 {
			key := impl.SumOf(strconv.Itoa(i))
			s := impl.FilterOf(key, d.items(many))
			list, _ := impl.FilterGet(s)
			yes := 0
			for _, item := range numbered(200) {
				want := slices.Contains(list, impl.FilterTo(key, item, len(list)*impl.FilterMany))
				if impl.FilterHas(s, key, item) != want || modelHas(s, key, item) != want {
					t.Fatalf("FilterHas of %q, %q, %q is not %t", s, key, item, want)
				}
				if want {
					yes++
				}
			}
			if yes > 40 {
				t.Errorf("FilterHas of %d items is true of %d of 200", many, yes)
			}
		}
	}
}

func TestP10EachPlaceCounts(t *testing.T) {
	key := impl.SumOf("key")
	for _, item := range numbered(300) {
		at := impl.FilterTo(key, item, 2*impl.FilterMany)
		for place := range 2 * impl.FilterMany {
			first := modelVarPut(2) + modelRaw([]int{place, 2*impl.FilterMany - 1 - place}, impl.FilterBits)
			if impl.FilterHas(first, key, item) != (at == place || at == 2*impl.FilterMany-1) {
				t.Fatalf("FilterHas of %q, which falls to %d, by a filter of %d", item, at, place)
			}
		}
	}
}

func TestP10WhatHasNothing(t *testing.T) {
	key := impl.SumOf("key")
	s := impl.FilterOf(key, []string{"a", "b"})
	all := impl.ListMax * impl.FilterMany
	for _, wrong := range wrongSums() {
		if impl.FilterHas(s, wrong, "a") {
			t.Errorf("FilterHas by the key %q", wrong)
		}
	}
	for _, wrong := range wrongItems() {
		if impl.FilterHas(s, key, wrong) {
			t.Errorf("FilterHas of %q", wrong)
		}
	}
	for _, wrong := range []string{"", "\x00", "\x01", s + "\x00", s[:len(s)-1], "\x02" + s, "\x01" + modelRaw([]int{all}, impl.FilterBits)} {
		if impl.FilterHas(wrong, key, "a") || impl.FilterAny(wrong, key, []string{"a", "b"}) {
			t.Errorf("FilterHas by %q", wrong)
		}
	}
	if !impl.FilterHas(s, key, "a") {
		t.Error("FilterHas of what was put in")
	}
}

func TestP11AnyJustIfOneMayBe(t *testing.T) {
	d := &dice{state: 11}
	yes, no := 0, 0
	for many := range 8 {
		for i := range 100 {
			key := impl.SumOf(strconv.Itoa(i))
			put := d.items(many)
			s := impl.FilterOf(key, put)
			ask := d.items(d.below(8))
			want := false
			for _, item := range ask {
				want = want || impl.FilterHas(s, key, item)
			}
			if impl.FilterAny(s, key, ask) != want || modelAny(s, key, ask) != want {
				t.Fatalf("FilterAny of %q, %q, %q is not %t", s, key, ask, want)
			}
			if want {
				yes++
			} else {
				no++
			}
			for _, item := range put {
				at := d.below(len(ask) + 1)
				if with := slices.Insert(slices.Clone(ask), at, item); !impl.FilterAny(s, key, with) {
					t.Fatalf("FilterAny of %q, %q, %q is false", s, key, with)
				}
			}
		}
	}
	if yes < 20 || no < 20 {
		t.Errorf("asked %d times yes, %d times no", yes, no)
	}
}

func TestP11WrongItems(t *testing.T) {
	key := impl.SumOf("key")
	items := numbered(impl.ListMax)
	s := impl.FilterOf(key, items)
	if !impl.FilterAny(s, key, items) || !impl.FilterAny(s, key, slices.Repeat([]string{"i0"}, impl.ListMax)) {
		t.Error("FilterAny of ListMax items is false")
	}
	if impl.FilterAny(s, key, nil) || impl.FilterAny(s, key, []string{}) {
		t.Error("FilterAny of nothing is true")
	}
	for _, ask := range [][]string{numbered(impl.ListMax + 1), slices.Repeat([]string{"i0"}, impl.ListMax+1)} {
		if impl.FilterAny(s, key, ask) {
			t.Errorf("FilterAny of %d items is true", len(ask))
		}
	}
	for _, wrong := range wrongItems() {
		for _, ask := range [][]string{{wrong}, {"i0", wrong}, {wrong, "i0"}, {"i0", wrong, "i1"}} {
			if impl.FilterAny(s, key, ask) {
				t.Errorf("FilterAny of %q is true", ask)
			}
		}
	}
	for _, wrong := range wrongSums() {
		if impl.FilterAny(s, wrong, items) {
			t.Errorf("FilterAny by the key %q is true", wrong)
		}
	}
}
