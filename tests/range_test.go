package tests

import (
	"fmt"
	"slices"
	"testing"

	"loop.example/cordillera/impl"
)

// headLists is lists of heads that are ok, of each size, chains and others, and with heads that are the same.
func headLists() [][]impl.Head {
	d := &dice{state: 28}
	out := [][]impl.Head{nil, {}, slices.Repeat([]impl.Head{goodHead()}, impl.ChainMax)}
	for many := range impl.ChainMax + 1 {
		out = append(out, d.heads(many), headsOf(d.chain(nil, d.times(many))))
	}
	return append(out, headsOf(goodChain()), headsOf(d.chain(nil, steps(0, 1, impl.ChainMax))))
}

// wrongHeadLists is lists of heads of which there is no range.
func wrongHeadLists() [][]impl.Head {
	d := &dice{state: 280}
	out := [][]impl.Head{d.heads(impl.ChainMax + 1), d.heads(32), make([]impl.Head, 1), make([]impl.Head, 1000)}
	for i, wrong := range wrongHeads() {
		list := d.heads(i % impl.ChainMax)
		out = append(out, slices.Insert(list, d.below(len(list)+1), wrong))
	}
	for at := range 7 {
		list := d.heads(7)
		list[at].Diff = impl.DiffMax + 1
		out = append(out, list)
	}
	return out
}

// written is a peak as it stands in the sum of another one, or of a range.
func written(p impl.Peak) string {
	return fmt.Sprint(p.Sum, " ", p.Work, " ", p.Count)
}

func TestP28KnownRanges(t *testing.T) {
	heads := headsOf((&dice{state: 281}).chain(nil, []int{0, 3, 6, 9, 12, 15, 18}))
	var leaves []impl.Peak
	for _, h := range heads {
		leaves = append(leaves, impl.Peak{Sum: impl.SumOf("leaf " + impl.HeadPut(h)), Work: h.Diff, Count: 1})
	}
	two := func(a, b impl.Peak) impl.Peak {
		return impl.Peak{Sum: impl.SumOf("peak " + written(a) + " " + written(b)), Work: a.Work + b.Work, Count: a.Count + b.Count}
	}
	first, second, third := two(leaves[0], leaves[1]), two(leaves[2], leaves[3]), two(leaves[4], leaves[5])
	four := two(first, second)
	want := [][]impl.Peak{{}, {leaves[0]}, {first}, {first, leaves[2]}, {four}, {four, leaves[4]}, {four, third}, {four, third, leaves[6]}}
	for many, peaks := range want {
		if got := impl.RangeOf(heads[:many]); !slices.Equal(got, peaks) {
			t.Errorf("RangeOf of %d heads is %v, not %v", many, got, peaks)
		}
	}
	if four.Work != 4 || third.Work != 4 || leaves[6].Work != 2 {
		t.Errorf("the work of the peaks is %d, %d, %d", four.Work, third.Work, leaves[6].Work)
	}
	if got := impl.RangeRoot(want[7]); got != impl.SumOf("range "+written(four)+" "+written(third)+" "+written(leaves[6])) {
		t.Errorf("RangeRoot of seven heads is %q", got)
	}
	if got := impl.RangeRoot(impl.RangeOf(headsOf(goodChain()))); got != "c77585883560eb7c" {
		t.Errorf("RangeRoot of the document's chain is %q", got)
	}
	if impl.RangeRoot(nil) != impl.SumOf("range") || impl.RangeRoot([]impl.Peak{}) != impl.SumOf("range") {
		t.Errorf("RangeRoot of no heads is %q", impl.RangeRoot(nil))
	}
}

func TestP28RangeHasAllHeadsAndTheirWork(t *testing.T) {
	for _, list := range headLists() {
		peaks := impl.RangeOf(list)
		if !slices.Equal(peaks, modelRange(list)) || !impl.RangeOk(peaks) {
			t.Fatalf("RangeOf of %d heads is %v, not %v", len(list), peaks, modelRange(list))
		}
		work := len(modelUnits(list))
		if many, all := impl.RangeMany(peaks); many != len(list) || all != work {
			t.Fatalf("RangeMany of %d heads with the work %d is %d and %d", len(list), work, many, all)
		}
		roots := map[string]int{}
		for many := range len(list) + 1 {
			roots[impl.RangeRoot(impl.RangeOf(list[:many]))]++
		}
		if len(roots) != len(list)+1 {
			t.Fatalf("the beginnings of %d heads have %d roots", len(list), len(roots))
		}
		if len(list) == 0 {
			continue
		}
		last := len(list) - 1
		if got, ok := impl.RangeAdd(impl.RangeOf(list[:last]), list[last]); !ok || !slices.Equal(got, peaks) {
			t.Fatalf("RangeAdd of the last of %d heads is %v and %t", len(list), got, ok)
		}
	}
}

func TestP28NoRange(t *testing.T) {
	for _, list := range wrongHeadLists() {
		if got := impl.RangeOf(list); len(got) != 0 {
			t.Errorf("RangeOf of %v is %v", list, got)
		}
		for at := -1; at <= min(len(list), 30); at++ {
			if got := impl.RangeProof(list, at); len(got.Peaks) != 0 || len(got.Steps) != 0 {
				t.Errorf("RangeProof of %v at %d is %v", list, at, got)
			}
		}
	}
}

// sameAdd holds RangeAdd against its model.
func sameAdd(t *testing.T, list []impl.Peak, h impl.Head) ([]impl.Peak, bool) {
	t.Helper()
	got, ok := impl.RangeAdd(list, h)
	if want, wantOk := modelRangeAdd(list, h); !slices.Equal(got, want) || ok != wantOk {
		t.Fatalf("RangeAdd of %v and %v is %v and %t, not %v and %t", list, h, got, ok, want, wantOk)
	}
	return got, ok
}

func TestP29OneHeadMore(t *testing.T) {
	d := &dice{state: 29}
	for many := range impl.ChainMax {
		for range 10 {
			list, h := d.peaks(many), d.head()
			more, ok := sameAdd(t, list, h)
			if !ok || !impl.RangeOk(more) {
				t.Fatalf("RangeAdd of %v and %v is %v and %t", list, h, more, ok)
			}
			_, work := impl.RangeMany(list)
			if gotMany, gotWork := impl.RangeMany(more); gotMany != many+1 || gotWork != work+h.Diff {
				t.Fatalf("RangeAdd of %d heads with the work %d and of %d has %d and %d", many, work, h.Diff, gotMany, gotWork)
			}
		}
	}
}

func TestP29NoHeadMore(t *testing.T) {
	d := &dice{state: 290}
	full := d.peaks(impl.ChainMax)
	if more, ok := sameAdd(t, full, goodHead()); ok || !slices.Equal(more, full) {
		t.Errorf("RangeAdd of %d heads is %v and %t", impl.ChainMax, more, ok)
	}
	for _, wrong := range wrongHeads() {
		for _, many := range []int{0, 1, 7, 19, impl.ChainMax} {
			if more, ok := sameAdd(t, d.peaks(many), wrong); ok || len(more) != 0 {
				t.Errorf("RangeAdd of the head %v is %v and %t", wrong, more, ok)
			}
		}
	}
	for _, list := range wrongRanges() {
		if more, ok := sameAdd(t, list, goodHead()); ok || len(more) != 0 {
			t.Errorf("RangeAdd of %v is %v and %t", list, more, ok)
		}
	}
}

// wrongPeaks is peaks that are not ok, each by one part; with another count their work is one that it may have.
func wrongPeaks() []impl.Peak {
	sum := modelSum("peak")
	out := []impl.Peak{{}, {Sum: sum}, {Sum: sum, Work: 1}, {Sum: sum, Count: 1}, {Sum: sum, Work: -8, Count: -1}}
	for _, wrong := range wrongSums() {
		out = append(out, impl.Peak{Sum: wrong, Work: 4, Count: 2})
	}
	for _, count := range []int{1, 2, 4, 8, 16} {
		for _, work := range beyond(count, 8*count) {
			out = append(out, impl.Peak{Sum: sum, Work: work, Count: count})
		}
	}
	for _, count := range append(beyond(1, impl.ChainMax), 32, 64, 1<<32, 1<<62) {
		for _, work := range []int{count, count * 2, 1, 4, 100} {
			out = append(out, impl.Peak{Sum: sum, Work: work, Count: count})
		}
	}
	return out
}

// wrongRanges is peaks that are no range, each by one part.
func wrongRanges() [][]impl.Peak {
	d := &dice{state: 291}
	var out [][]impl.Peak
	for _, wrong := range wrongPeaks() {
		out = append(out, []impl.Peak{wrong}, []impl.Peak{d.peak(16), wrong}, []impl.Peak{wrong, d.peak(1)}, []impl.Peak{d.peak(4), wrong, d.peak(1)})
	}
	for _, counts := range [][]int{{3}, {5}, {6}, {7}, {12}, {15}, {18}, {20}, {4, 3}, {3, 2}, {16, 3}, {1, 1}, {2, 2}, {4, 4}, {8, 8}, {1, 2}, {2, 4, 1}, {4, 2, 2}, {4, 1, 2}, {16, 4, 1}, {16, 4, 2}, {16, 8}, {16, 4, 4}, {16, 4, 2, 1}, {16, 16}, {2, 1, 1}} {
		var list []impl.Peak
		for _, count := range counts {
			list = append(list, d.peak(count))
		}
		out = append(out, list)
	}
	return append(out, slices.Repeat([]impl.Peak{d.peak(1)}, 21), make([]impl.Peak, 1000))
}

func TestP29RangeOk(t *testing.T) {
	d := &dice{state: 292}
	if !impl.RangeOk(nil) || !impl.RangeOk([]impl.Peak{}) {
		t.Error("RangeOk of no peaks is false")
	}
	for many := range impl.ChainMax + 1 {
		for range 30 {
			if list := d.peaks(many); !impl.RangeOk(list) {
				t.Fatalf("RangeOk of %v is false", list)
			}
		}
	}
	for _, list := range wrongRanges() {
		if impl.RangeOk(list) || modelRangeOk(list) {
			t.Errorf("RangeOk of %v is true", list)
		}
	}
	// All lists of up to three counts.
	for a := 1; a <= impl.ChainMax; a++ {
		for b := 0; b <= impl.ChainMax; b++ {
			for c := 0; c <= impl.ChainMax; c++ {
				list := []impl.Peak{d.peak(a)}
				for _, count := range []int{b, c} {
					if count > 0 {
						list = append(list, d.peak(count))
					}
				}
				if got := impl.RangeOk(list); got != modelRangeOk(list) {
					t.Fatalf("RangeOk of %v is %t", list, got)
				}
			}
		}
	}
}

func TestP30OtherRangesHaveOtherRoots(t *testing.T) {
	d := &dice{state: 30}
	for many := range impl.ChainMax + 1 {
		list := d.peaks(many)
		root := impl.RangeRoot(list)
		if root != modelRangeRoot(list) || !modelIsSum(root) {
			t.Fatalf("RangeRoot of %v is %q, not %q", list, root, modelRangeRoot(list))
		}
		for at := range list {
			for figure := range 16 {
				other := slices.Clone(list)
				other[at].Sum = otherSum(other[at].Sum, figure)
				if impl.RangeRoot(other) == root {
					t.Fatalf("RangeRoot of %v and %v is the same", list, other)
				}
			}
			for work := list[at].Count; work <= 8*list[at].Count; work++ {
				other := slices.Clone(list)
				other[at].Work = work
				if (impl.RangeRoot(other) == root) != (work == list[at].Work) {
					t.Fatalf("RangeRoot of %v and %v is the same", list, other)
				}
			}
			if impl.RangeRoot(slices.Delete(slices.Clone(list), at, at+1)) == root || impl.RangeRoot(list[:at]) == root {
				t.Fatalf("RangeRoot of %v and of fewer is the same", list)
			}
		}
	}
}

func TestP30NoRoot(t *testing.T) {
	for _, list := range wrongRanges() {
		if got := impl.RangeRoot(list); got != "" {
			t.Errorf("RangeRoot of %v is %q", list, got)
		}
		if many, work := impl.RangeMany(list); many != -1 || work != -1 {
			t.Errorf("RangeMany of %v is %d and %d", list, many, work)
		}
	}
	if many, work := impl.RangeMany(nil); many != 0 || work != 0 {
		t.Errorf("RangeMany of nil is %d and %d", many, work)
	}
}
