package tests

import (
	"math"
	"slices"
	"testing"

	"loop.example/cordillera/impl"
)

// sameRangeCheck holds RangeCheck against its model.
func sameRangeCheck(t *testing.T, root string, h impl.Head, at int, p impl.Proof) int {
	t.Helper()
	got, want := impl.RangeCheck(root, h, at, p), modelRangeCheck(root, h, at, p)
	if got != want {
		t.Fatalf("RangeCheck by %q of %v at %d by %v is %d, not %d", root, h, at, p, got, want)
	}
	return got
}

func TestP31KnownSteps(t *testing.T) {
	heads := headsOf((&dice{state: 31}).chain(nil, []int{0, 3, 6, 9, 12, 15, 18}))
	one := func(at int) impl.Peak { return impl.RangeOf(heads[at : at+1])[0] }
	two := func(at int) impl.Peak { return impl.RangeOf(heads[at : at+2])[0] }
	want := [][]impl.Peak{{one(1), two(2)}, {one(0), two(2)}, {one(3), two(0)}, {one(2), two(0)}, {one(5)}, {one(4)}, {}}
	ahead := []int{0, 1, 2, 3, 4, 6, 8}
	for at, steps := range want {
		p := impl.RangeProof(heads, at)
		if !slices.Equal(p.Steps, steps) || !slices.Equal(p.Peaks, impl.RangeOf(heads)) {
			t.Errorf("RangeProof at %d is %v, not %v", at, p.Steps, steps)
		}
		if got := impl.RangeCheck(impl.RangeRoot(p.Peaks), heads[at], at, p); got != ahead[at] {
			t.Errorf("RangeCheck at %d is %d, not %d", at, got, ahead[at])
		}
	}
}

func TestP31EachHeadIsProvedWhereItStands(t *testing.T) {
	places := append(steps(-2, 1, 30), math.MinInt, math.MaxInt, 32, 64, 1<<32, math.MaxInt-15)
	for _, list := range headLists() {
		root := impl.RangeRoot(impl.RangeOf(list))
		ahead := 0
		for at, h := range list {
			p := impl.RangeProof(list, at)
			if !sameProof(p, modelProof(list, at)) {
				t.Fatalf("RangeProof of %d heads at %d is %v, not %v", len(list), at, p, modelProof(list, at))
			}
			if got := sameRangeCheck(t, root, h, at, p); got != ahead {
				t.Fatalf("RangeCheck of %d heads at %d is %d, not %d", len(list), at, got, ahead)
			}
			for _, place := range places {
				got := sameRangeCheck(t, root, h, place, p)
				// A head that is there twice stands at both places.
				there := place >= 0 && place < len(list) && list[place] == h
				if got != -1 && !there {
					t.Fatalf("RangeCheck of %d heads at %d, proved at %d, is %d", len(list), place, at, got)
				}
			}
			for place, other := range list {
				if other != h && sameRangeCheck(t, root, other, at, p) != -1 {
					t.Fatalf("RangeCheck of %d heads at %d is not -1 of the head at %d", len(list), at, place)
				}
			}
			ahead += h.Diff
		}
	}
}

func TestP31AnotherHead(t *testing.T) {
	heads := headsOf((&dice{state: 310}).chain(nil, steps(1, 5, 13)))
	root := impl.RangeRoot(impl.RangeOf(heads))
	for at, h := range heads {
		p := impl.RangeProof(heads, at)
		others := slices.Repeat([]impl.Head{h}, 6)
		others[0].Prev = otherSum(h.Prev, 0)
		others[1].Root = otherSum(h.Root, 15)
		others[2].Time++
		others[3].Diff++
		others[4].Nonce++
		others[5] = impl.Head{}
		for _, other := range others {
			if got := sameRangeCheck(t, root, other, at, p); got != -1 {
				t.Errorf("RangeCheck of %v instead of %v is %d", other, h, got)
			}
		}
	}
}

func TestP31NoSuchHead(t *testing.T) {
	for _, list := range headLists() {
		for _, at := range []int{-1, len(list), len(list) + 1, math.MinInt, math.MaxInt} {
			if got := impl.RangeProof(list, at); len(got.Peaks) != 0 || len(got.Steps) != 0 {
				t.Errorf("RangeProof of %d heads at %d is %v", len(list), at, got)
			}
		}
	}
	if got := impl.RangeCheck(impl.RangeRoot(nil), goodHead(), 0, impl.Proof{}); got != -1 {
		t.Errorf("RangeCheck in no heads is %d", got)
	}
	if got := impl.RangeCheck("", goodHead(), 0, impl.Proof{}); got != -1 {
		t.Errorf("RangeCheck by no root is %d", got)
	}
}

// A head that is not ok is refused even in a range that was made of it.
func TestP31WrongHeadIsNotProved(t *testing.T) {
	for _, h := range wrongHeads() {
		leaf := modelLeaf(h)
		other := modelLeaf(goodHead())
		for _, p := range []impl.Proof{{Peaks: []impl.Peak{leaf}}, {Peaks: []impl.Peak{modelJoin(leaf, other)}, Steps: []impl.Peak{other}}} {
			if got := sameRangeCheck(t, modelRangeRoot(p.Peaks), h, 0, p); got != -1 {
				t.Errorf("RangeCheck of %v is %d", h, got)
			}
		}
	}
}

// turnedPeaks is a peak with another Sum, Work or Count.
func turnedPeaks(p impl.Peak) []impl.Peak {
	out := []impl.Peak{}
	for figure := range 16 {
		out = append(out, impl.Peak{Sum: otherSum(p.Sum, figure), Work: p.Work, Count: p.Count})
	}
	for _, work := range []int{p.Work - 1, p.Work + 1, p.Count, 8 * p.Count, 0, -p.Work, math.MaxInt, math.MinInt} {
		out = append(out, impl.Peak{Sum: p.Sum, Work: work, Count: p.Count})
	}
	for _, count := range []int{p.Count - 1, p.Count + 1, 2 * p.Count, 0, -p.Count, math.MaxInt, math.MinInt} {
		out = append(out, impl.Peak{Sum: p.Sum, Work: p.Work, Count: count})
	}
	return append(out, impl.Peak{}, impl.Peak{Work: p.Work, Count: p.Count})
}

// turnedProofs is a proof with whatever of it is another one.
func turnedProofs(p impl.Proof) []impl.Proof {
	var out []impl.Proof
	turn := func(list []impl.Peak, with func(list []impl.Peak) impl.Proof) {
		for i := range list {
			for _, peak := range turnedPeaks(list[i]) {
				if peak != list[i] {
					out = append(out, with(slices.Replace(slices.Clone(list), i, i+1, peak)))
				}
			}
			out = append(out, with(slices.Delete(slices.Clone(list), i, i+1)))
			out = append(out, with(slices.Insert(slices.Clone(list), i, list[i])))
			out = append(out, with(append(slices.Clone(list), list[i])))
		}
	}
	turn(p.Steps, func(list []impl.Peak) impl.Proof { return impl.Proof{Peaks: p.Peaks, Steps: list} })
	turn(p.Peaks, func(list []impl.Peak) impl.Proof { return impl.Proof{Peaks: list, Steps: p.Steps} })
	if len(p.Steps) > 1 {
		turned := slices.Clone(p.Steps)
		slices.Reverse(turned)
		out = append(out, impl.Proof{Peaks: p.Peaks, Steps: turned})
	}
	return append(out, impl.Proof{Peaks: p.Peaks, Steps: append(slices.Clone(p.Steps), p.Peaks[0])})
}

func TestP32ProofFallsWithWhateverIsTurned(t *testing.T) {
	d := &dice{state: 32}
	for many := 1; many <= impl.ChainMax; many++ {
		heads := headsOf(d.chain(nil, d.times(many)))
		root := impl.RangeRoot(impl.RangeOf(heads))
		for at, h := range heads {
			p := impl.RangeProof(heads, at)
			for _, other := range turnedProofs(p) {
				if got := sameRangeCheck(t, root, h, at, other); got != -1 {
					t.Fatalf("RangeCheck of %d heads at %d by %v instead of %v is %d", many, at, other, p, got)
				}
				// By the root of these peaks it may be proved, if its own peak is not the one that is turned.
				_, all := modelRangeMany(other.Peaks)
				if got := sameRangeCheck(t, modelRangeRoot(other.Peaks), h, at, other); got != -1 && got+h.Diff > all {
					t.Fatalf("RangeCheck of %d heads at %d is %d, and all work %d", many, at, got, all)
				}
			}
			for _, wrong := range []string{"", noughts, otherSum(root, 3), root + "0", root[:15], modelSum(root)} {
				if got := sameRangeCheck(t, wrong, h, at, p); got != -1 {
					t.Fatalf("RangeCheck by the root %q instead of %q is %d", wrong, root, got)
				}
			}
		}
	}
}

func TestP32WorkAheadIsWithinAll(t *testing.T) {
	for _, list := range headLists() {
		for at, h := range list {
			p := impl.RangeProof(list, at)
			_, all := impl.RangeMany(p.Peaks)
			ahead := impl.RangeCheck(impl.RangeRoot(p.Peaks), h, at, p)
			if ahead < 0 || ahead+h.Diff > all || at == len(list)-1 && ahead+h.Diff != all {
				t.Fatalf("RangeCheck of %d heads at %d is %d, and all work %d", len(list), at, ahead, all)
			}
		}
	}
}

// A step that is not ok, or of another count, is refused even if all sums fit.
func TestP32StepsThatAreNotOk(t *testing.T) {
	h := goodHead()
	leaf := modelLeaf(h)
	good := impl.Peak{Sum: modelSum("step"), Work: 3, Count: 1}
	if got := sameRangeCheck(t, modelRangeRoot([]impl.Peak{modelJoin(leaf, good)}), h, 0, impl.Proof{Peaks: []impl.Peak{modelJoin(leaf, good)}, Steps: []impl.Peak{good}}); got != 0 {
		t.Fatalf("RangeCheck of a made proof is %d", got)
	}
	made := 0
	bad := append(wrongPeaks(), impl.Peak{Sum: good.Sum, Work: 9, Count: 1}, impl.Peak{Sum: good.Sum, Work: 5, Count: 3}, impl.Peak{Sum: good.Sum, Work: 20, Count: 7}, impl.Peak{Sum: good.Sum, Work: 40, Count: 15}, impl.Peak{Sum: "step", Work: 3, Count: 1}, impl.Peak{Work: 3, Count: 1}, impl.Peak{Sum: good.Sum, Work: 0, Count: 1})
	for _, step := range bad {
		for at := range 8 {
			for _, top := range []impl.Peak{modelJoin(leaf, step), modelJoin(step, leaf)} {
				p := impl.Proof{Peaks: []impl.Peak{top}, Steps: []impl.Peak{step}}
				if modelRangeOk(p.Peaks) {
					made++
				}
				if got := sameRangeCheck(t, modelRangeRoot(p.Peaks), h, at, p); got != -1 {
					t.Fatalf("RangeCheck at %d by the step %v is %d", at, step, got)
				}
			}
		}
	}
	if made < 50 {
		t.Errorf("only %d of the ranges are ok", made)
	}
}

// A step that is not as high as the one in which the head is, at each height.
func TestP32StepsOfAnotherCount(t *testing.T) {
	d := &dice{state: 320}
	h := goodHead()
	for high := range 4 {
		var list []impl.Peak
		below := modelLeaf(h)
		for i := range high {
			list = append(list, d.peak(1<<i))
			below = modelJoin(below, list[i])
		}
		for count := 1; count <= impl.ChainMax; count++ {
			step := impl.Peak{Sum: d.sum(), Work: 3 * count, Count: count}
			top := modelJoin(below, step)
			p := impl.Proof{Peaks: []impl.Peak{top}, Steps: append(slices.Clone(list), step)}
			want := -1
			if count == below.Count {
				want = 0
			}
			if got := sameRangeCheck(t, modelRangeRoot(p.Peaks), h, 0, p); got != want {
				t.Errorf("RangeCheck with a step of %d beside %d is %d, not %d", count, below.Count, got, want)
			}
		}
	}
}

func TestP32TooManySteps(t *testing.T) {
	d := &dice{state: 321}
	heads := d.heads(16)
	p := impl.RangeProof(heads, 5)
	root := impl.RangeRoot(p.Peaks)
	for more := 1; more <= 30; more++ {
		other := impl.Proof{Peaks: p.Peaks, Steps: append(slices.Clone(p.Steps), slices.Repeat([]impl.Peak{d.peak(16)}, more)...)}
		if got := sameRangeCheck(t, root, heads[5], 5, other); got != -1 {
			t.Errorf("RangeCheck with %d more steps is %d", more, got)
		}
	}
}

func TestP32PeaksThatAreNoRange(t *testing.T) {
	h := goodHead()
	for _, list := range wrongRanges() {
		for at := range 3 {
			for _, root := range []string{"", modelSum("range"), noughts} {
				if got := sameRangeCheck(t, root, h, at, impl.Proof{Peaks: list}); got != -1 {
					t.Errorf("RangeCheck in %v is %d", list, got)
				}
			}
		}
	}
	leaf := modelLeaf(h)
	for _, list := range [][]impl.Peak{{leaf, leaf}, {leaf, modelJoin(leaf, leaf)}} {
		if got := sameRangeCheck(t, "", h, 0, impl.Proof{Peaks: list}); got != -1 {
			t.Errorf("RangeCheck in %v is %d", list, got)
		}
	}
}
