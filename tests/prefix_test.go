package tests

import (
	"math"
	"slices"
	"testing"

	"loop.example/cordillera/impl"
)

// samePrefix holds PrefixOf against its model.
func samePrefix(t *testing.T, list []impl.Head, many int) []impl.Peak {
	t.Helper()
	got, want := impl.PrefixOf(list, many), modelPrefix(list, many)
	if !slices.Equal(got, want) {
		t.Fatalf("PrefixOf of %d heads behind %d is %v, not %v", len(list), many, got, want)
	}
	return got
}

// samePrefixCheck holds PrefixCheck against its model.
func samePrefixCheck(t *testing.T, list []impl.Peak, root string, more []impl.Peak) bool {
	t.Helper()
	got := impl.PrefixCheck(list, root, more)
	if got != modelPrefixCheck(list, root, more) {
		t.Fatalf("PrefixCheck of %v by %q with %v is %t", list, root, more, got)
	}
	return got
}

// countsOf is how many heads each peak has.
func countsOf(list []impl.Peak) []int {
	var out []int
	for _, p := range list {
		out = append(out, p.Count)
	}
	return out
}

// pushed is peaks added to a range, whatever they are, as chapter 5 says.
func pushed(list []impl.Peak, more ...impl.Peak) []impl.Peak {
	out := slices.Clone(list)
	for _, p := range more {
		for len(out) > 0 && out[len(out)-1].Count == p.Count {
			p = modelJoin(out[len(out)-1], p)
			out = out[:len(out)-1]
		}
		out = append(out, p)
	}
	return out
}

// writtenRoot is the root of peaks, be they a range or not.
func writtenRoot(list []impl.Peak) string {
	text := "range"
	for _, p := range list {
		text += " " + written(p)
	}
	return modelSum(text)
}

func TestP56KnownPrefixes(t *testing.T) {
	heads := headsOf((&dice{state: 56}).chain(nil, steps(0, 3, impl.ChainMax)))
	counts := []struct {
		all, many int
		want      []int
	}{
		{0, 0, nil},
		{1, 0, []int{1}}, {1, 1, nil},
		{2, 0, []int{2}}, {2, 1, []int{1}},
		{3, 0, []int{2, 1}}, {3, 1, []int{1, 1}}, {3, 2, []int{1}},
		{7, 0, []int{4, 2, 1}}, {7, 3, []int{1, 2, 1}}, {7, 4, []int{2, 1}},
		{12, 4, []int{4, 4}}, {12, 6, []int{2, 4}}, {12, 8, []int{4}},
		{15, 1, []int{1, 2, 4, 4, 2, 1}}, {15, 7, []int{1, 4, 2, 1}},
		{16, 0, []int{16}}, {16, 8, []int{8}}, {16, 12, []int{4}}, {16, 15, []int{1}},
		{19, 0, []int{16, 2, 1}}, {19, 1, []int{1, 2, 4, 8, 2, 1}},
		{20, 0, []int{16, 4}}, {20, 2, []int{2, 4, 8, 4}}, {20, 8, []int{8, 4}}, {20, 16, []int{4}}, {20, 18, []int{2}}, {20, 19, []int{1}}, {20, 20, nil},
	}
	for _, c := range counts {
		more := samePrefix(t, heads[:c.all], c.many)
		if !slices.Equal(countsOf(more), c.want) {
			t.Errorf("PrefixOf of %d heads behind %d has the counts %d, not %d", c.all, c.many, countsOf(more), c.want)
		}
		at := c.many
		for _, p := range more {
			if peaks := impl.RangeOf(heads[at : at+p.Count]); len(peaks) != 1 || peaks[0] != p {
				t.Errorf("PrefixOf of %d heads behind %d has %v at %d, not %v", c.all, c.many, p, at, peaks)
			}
			at += p.Count
		}
	}
}

func TestP56RangeOfTheFirstBecomesThatOfAll(t *testing.T) {
	for _, list := range headLists() {
		root := impl.RangeRoot(impl.RangeOf(list))
		for many := range len(list) + 1 {
			more := samePrefix(t, list, many)
			if !samePrefixCheck(t, impl.RangeOf(list[:many]), root, more) {
				t.Fatalf("PrefixCheck of %d of %d heads is false", many, len(list))
			}
			count, work := 0, 0
			for _, p := range more {
				count += p.Count
				work += p.Work
			}
			if count != len(list)-many || work != len(modelUnits(list[many:])) {
				t.Fatalf("PrefixOf of %d heads behind %d has %d heads and the work %d", len(list), many, count, work)
			}
			for other := range len(list) + 1 {
				if other != many && samePrefixCheck(t, impl.RangeOf(list[:other]), root, more) {
					t.Fatalf("PrefixCheck of the way from %d to %d heads is true from %d", many, len(list), other)
				}
			}
		}
	}
}

// The first heads may be none: then the way is the range itself.
func TestP56FirstHeadsAreNone(t *testing.T) {
	for _, list := range headLists() {
		more := samePrefix(t, list, 0)
		if !slices.Equal(more, impl.RangeOf(list)) {
			t.Fatalf("PrefixOf of %d heads behind none is %v", len(list), more)
		}
		for _, none := range [][]impl.Peak{nil, {}} {
			if !samePrefixCheck(t, none, impl.RangeRoot(more), more) {
				t.Fatalf("PrefixCheck of none to %d heads is false", len(list))
			}
		}
		if got := samePrefix(t, list, len(list)); len(got) != 0 {
			t.Fatalf("PrefixOf of %d heads behind all is %v", len(list), got)
		}
		for _, none := range [][]impl.Peak{nil, {}} {
			if !samePrefixCheck(t, more, impl.RangeRoot(more), none) || samePrefixCheck(t, more, modelSum("root"), none) {
				t.Fatalf("PrefixCheck of %d heads without more is wrong", len(list))
			}
		}
	}
	if !impl.PrefixCheck(nil, impl.SumOf("range"), nil) || impl.PrefixCheck(nil, "", nil) {
		t.Error("PrefixCheck of no heads at all is wrong")
	}
}

func TestP56NoPrefix(t *testing.T) {
	for _, list := range headLists() {
		for _, many := range []int{-1, len(list) + 1, impl.ChainMax + 1, -16, 32, math.MinInt, math.MaxInt} {
			if got := samePrefix(t, list, many); len(got) != 0 {
				t.Fatalf("PrefixOf of %d heads behind %d is %v", len(list), many, got)
			}
		}
	}
	for _, list := range wrongHeadLists() {
		for many := -1; many <= min(len(list), 40)+1; many++ {
			if got := samePrefix(t, list, many); len(got) != 0 {
				t.Fatalf("PrefixOf of %v behind %d is %v", list, many, got)
			}
		}
	}
}

// A head that is not ok is refused even among the first, of which no peak is told.
func TestP56WrongHeadAmongTheFirst(t *testing.T) {
	for _, wrong := range wrongHeads() {
		list := (&dice{state: 560}).heads(7)
		list[1] = wrong
		if got := samePrefix(t, list, 4); len(got) != 0 {
			t.Errorf("PrefixOf of %v is %v", list, got)
		}
	}
}

func TestP57WayFallsWithWhateverIsTurned(t *testing.T) {
	d := &dice{state: 57}
	for all := 1; all <= impl.ChainMax; all++ {
		heads := d.heads(all)
		root := impl.RangeRoot(impl.RangeOf(heads))
		for many := range all + 1 {
			first, more := impl.RangeOf(heads[:many]), impl.PrefixOf(heads, many)
			for i, p := range more {
				for _, other := range turnedPeaks(p) {
					if other != p && samePrefixCheck(t, first, root, slices.Replace(slices.Clone(more), i, i+1, other)) {
						t.Fatalf("PrefixCheck from %d to %d heads is true with %v instead of %v", many, all, other, p)
					}
				}
				for _, other := range [][]impl.Peak{slices.Delete(slices.Clone(more), i, i+1), slices.Insert(slices.Clone(more), i, p), more[:i]} {
					if samePrefixCheck(t, first, root, other) {
						t.Fatalf("PrefixCheck from %d to %d heads is true with %v instead of %v", many, all, other, more)
					}
				}
			}
			for i, p := range first {
				for _, other := range turnedPeaks(p) {
					if other != p && samePrefixCheck(t, slices.Replace(slices.Clone(first), i, i+1, other), root, more) {
						t.Fatalf("PrefixCheck from %d to %d heads is true of %v instead of %v", many, all, other, p)
					}
				}
			}
		}
	}
}

func TestP57PeaksInAnotherOrder(t *testing.T) {
	d := &dice{state: 570}
	turned := 0
	for all := 2; all <= impl.ChainMax; all++ {
		heads := d.heads(all)
		root := impl.RangeRoot(impl.RangeOf(heads))
		for many := range all {
			more := impl.PrefixOf(heads, many)
			for i := 1; i < len(more); i++ {
				other := slices.Clone(more)
				other[i-1], other[i] = other[i], other[i-1]
				turned++
				if samePrefixCheck(t, impl.RangeOf(heads[:many]), root, other) {
					t.Fatalf("PrefixCheck from %d to %d heads is true with %v instead of %v", many, all, other, more)
				}
			}
		}
	}
	if turned < 100 {
		t.Errorf("only %d ways were turned", turned)
	}
}

func TestP57WrongRoots(t *testing.T) {
	heads := headsOf(goodChain())
	root := impl.RangeRoot(impl.RangeOf(heads))
	for many := range len(heads) + 1 {
		first, more := impl.RangeOf(heads[:many]), impl.PrefixOf(heads, many)
		others := append(wrongSums(), noughts, root+"0", root[:15], modelSum(root), impl.RangeRoot(impl.RangeOf(heads[:4])), impl.RangeRoot(nil))
		for figure := range 16 {
			others = append(others, otherSum(root, figure))
		}
		for _, other := range others {
			if samePrefixCheck(t, first, other, more) {
				t.Errorf("PrefixCheck from %d heads by %q instead of %q is true", many, other, root)
			}
		}
	}
}

// What is not ok is refused even if all sums fit; what is wrong with a peak may be gone once it became one with another.
func TestP57PeaksThatAreNotOk(t *testing.T) {
	d := &dice{state: 571}
	made := 0
	try := func(list []impl.Peak, more ...impl.Peak) {
		t.Helper()
		all := pushed(list, more...)
		if modelRangeOk(all) {
			made++
		}
		for _, root := range []string{writtenRoot(all), ""} {
			if samePrefixCheck(t, list, root, more) {
				t.Errorf("PrefixCheck of %v with %v is true", list, more)
			}
		}
	}
	bad := append(wrongPeaks(), impl.Peak{Sum: "peak", Work: 1, Count: 1}, impl.Peak{Work: 9, Count: 2}, impl.Peak{Sum: modelSum("a"), Work: 9, Count: 1}, impl.Peak{Sum: modelSum("a"), Work: 1, Count: 2})
	for _, wrong := range bad {
		good := impl.Peak{Sum: d.sum(), Work: 4 * wrong.Count, Count: wrong.Count}
		try([]impl.Peak{wrong}, good)
		try(nil, wrong, good)
		try(nil, good, wrong)
		try(nil, wrong)
		if modelPeakOk(good) && modelRangeOk([]impl.Peak{good}) {
			try([]impl.Peak{good}, wrong)
		}
	}
	if made < 100 {
		t.Errorf("only %d of the ranges are ok", made)
	}
}

func TestP57RangesThatAreNotOk(t *testing.T) {
	d := &dice{state: 572}
	for _, list := range wrongRanges() {
		for _, more := range [][]impl.Peak{nil, {}, {d.peak(1)}, {d.peak(2)}, {d.peak(4), d.peak(4)}, {d.peak(1), d.peak(1), d.peak(2)}} {
			for _, root := range []string{writtenRoot(pushed(list, more...)), writtenRoot(list), ""} {
				if samePrefixCheck(t, list, root, more) {
					t.Fatalf("PrefixCheck of %v with %v is true", list, more)
				}
			}
		}
	}
}

// All ways of up to three peaks from all sizes: which of them end with a range.
func TestP57WaysThatEndWithNoRange(t *testing.T) {
	d := &dice{state: 573}
	stand, fall := 0, 0
	for many := range impl.ChainMax + 1 {
		list := d.peaks(many)
		for _, a := range []int{1, 2, 3, 4, 5, 8, 16, 20} {
			for _, b := range []int{0, 1, 2, 3, 4, 8, 10, 16} {
				for _, c := range []int{0, 1, 2, 4, 8} {
					var more []impl.Peak
					for _, count := range []int{a, b, c} {
						if count > 0 {
							more = append(more, d.peak(count))
						}
					}
					if samePrefixCheck(t, list, "", more) {
						t.Fatalf("PrefixCheck of %v with %v by no root is true", list, more)
					}
					if samePrefixCheck(t, list, writtenRoot(pushed(list, more...)), more) {
						stand++
					} else {
						fall++
					}
				}
			}
		}
	}
	if stand < 200 || fall < 200 {
		t.Errorf("%d ways end with a range, %d do not", stand, fall)
	}
}

func TestP57AsManyPeaksAsCanBe(t *testing.T) {
	d := &dice{state: 574}
	for many := range impl.ChainMax + 1 {
		list := d.peaks(many)
		for size := range 12 {
			var more []impl.Peak
			for range size {
				more = append(more, d.peak(1))
			}
			want := size <= impl.SideMax && many+size <= impl.ChainMax
			if got := samePrefixCheck(t, list, writtenRoot(pushed(list, more...)), more); got != want {
				t.Errorf("PrefixCheck of %d heads with %d more, one by one, is %t", many, size, got)
			}
		}
	}
	many := slices.Repeat([]impl.Peak{d.peak(1)}, 1000)
	if samePrefixCheck(t, nil, writtenRoot(pushed(nil, many...)), many) {
		t.Error("PrefixCheck of 1000 peaks is true")
	}
}

func TestP58TwoWaysAreAWay(t *testing.T) {
	for _, list := range headLists() {
		root := impl.RangeRoot(impl.RangeOf(list))
		for many := range len(list) + 1 {
			first := list[:many]
			ahead := impl.PrefixOf(first, 0)
			if !samePrefixCheck(t, nil, impl.RangeRoot(impl.RangeOf(first)), ahead) {
				t.Fatalf("PrefixCheck of none to %d heads is false", many)
			}
			both := append(slices.Clone(ahead), impl.PrefixOf(list, many)...)
			if len(both) > impl.SideMax {
				t.Fatalf("%d heads, parted at %d, are %d peaks", len(list), many, len(both))
			}
			if !samePrefixCheck(t, nil, root, both) {
				t.Fatalf("PrefixCheck of two ways, parted at %d of %d heads, is false", many, len(list))
			}
		}
	}
}

// Three ways may be more peaks than can be added at once.
func TestP58ThreeWays(t *testing.T) {
	list := (&dice{state: 58}).heads(impl.ChainMax)
	sizes := map[int]int{}
	for all := range len(list) + 1 {
		root := impl.RangeRoot(impl.RangeOf(list[:all]))
		for second := range all + 1 {
			for first := range second + 1 {
				way := slices.Concat(impl.PrefixOf(list[:first], 0), impl.PrefixOf(list[:second], first), impl.PrefixOf(list[:all], second))
				sizes[len(way)]++
				if got := samePrefixCheck(t, nil, root, way); got != (len(way) <= impl.SideMax) {
					t.Fatalf("PrefixCheck of %d peaks, parted at %d and %d of %d heads, is %t", len(way), first, second, all, got)
				}
			}
		}
	}
	if sizes[impl.SideMax] == 0 || sizes[impl.SideMax+1] == 0 {
		t.Errorf("the ways have these sizes: %v", sizes)
	}
}
