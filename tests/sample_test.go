package tests

import (
	"math"
	"slices"
	"strconv"
	"testing"

	"loop.example/cordillera/impl"
)

// sampleChains is heads of chains that are not empty.
func sampleChains() [][]impl.Head {
	d := &dice{state: 33}
	out := [][]impl.Head{headsOf(goodChain()), headsOf(d.chain(nil, steps(0, 1, impl.ChainMax)))}
	for many := 1; many <= impl.ChainMax; many++ {
		out = append(out, headsOf(d.chain(nil, d.times(many))))
	}
	return out
}

// sameSampleCheck holds SampleCheck against its model.
func sameSampleCheck(t *testing.T, root string, work int, list []impl.Sample) bool {
	t.Helper()
	got := impl.SampleCheck(root, work, list)
	if got != modelSampleCheck(root, work, list) {
		t.Fatalf("SampleCheck by %q and %d of %v is %t", root, work, list, got)
	}
	return got
}

func TestP33SamplesAreHeldForTrue(t *testing.T) {
	for _, list := range sampleChains() {
		peaks := impl.RangeOf(list)
		root, units := impl.RangeRoot(peaks), modelUnits(list)
		for many := range impl.SampleMax + 1 {
			samples := impl.SampleOf(list, many)
			if !sameSamples(samples, modelSamples(list, many)) || len(samples) != many {
				t.Fatalf("SampleOf of %d heads and %d is %v, not %v", len(list), many, samples, modelSamples(list, many))
			}
			if !sameSampleCheck(t, root, impl.ChainWork(list), samples) {
				t.Fatalf("SampleCheck of SampleOf of %d heads and %d is false", len(list), many)
			}
			for k, s := range samples {
				at := units[impl.SampleAt(root, k, len(units))]
				if s.At != at || s.Head != list[at] || !sameProof(s.Proof, impl.RangeProof(list, at)) {
					t.Fatalf("the sample %d of %d heads is %v, not that at %d", k, len(list), s, at)
				}
			}
		}
	}
}

func TestP33SamplesOfHeadsThatAreNoChain(t *testing.T) {
	d := &dice{state: 330}
	lists := headLists()
	hardest := d.heads(impl.ChainMax)
	for i := range hardest {
		hardest[i].Diff = impl.DiffMax
	}
	lists = append(lists, hardest)
	for _, list := range lists {
		for _, many := range []int{math.MinInt, -1, 0, 1, 5, impl.SampleMax, impl.SampleMax + 1, math.MaxInt} {
			if got := impl.SampleOf(list, many); !sameSamples(got, modelSamples(list, many)) {
				t.Fatalf("SampleOf of %d heads and %d is %v, not %v", len(list), many, got, modelSamples(list, many))
			}
		}
	}
	if got := impl.SampleOf(hardest, impl.SampleMax); len(got) != impl.SampleMax {
		t.Errorf("SampleOf of heads with the work %d is %v", impl.ChainMax*impl.DiffMax, got)
	}
}

func TestP33NoSamples(t *testing.T) {
	list := headsOf(goodChain())
	for _, many := range []int{0, -1, impl.SampleMax + 1, 1000, math.MinInt, math.MaxInt} {
		if got := impl.SampleOf(list, many); len(got) != 0 {
			t.Errorf("SampleOf of %d is %v", many, got)
		}
	}
	for many := range impl.SampleMax + 1 {
		if len(impl.SampleOf(nil, many)) != 0 || len(impl.SampleOf([]impl.Head{}, many)) != 0 {
			t.Errorf("SampleOf of no heads and %d is not empty", many)
		}
		for _, wrong := range wrongHeadLists() {
			if got := impl.SampleOf(wrong, many); len(got) != 0 {
				t.Errorf("SampleOf of %v is %v", wrong, got)
			}
		}
	}
}

func TestP34FewerSamplesAreTrueToo(t *testing.T) {
	for _, list := range sampleChains() {
		samples := impl.SampleOf(list, impl.SampleMax)
		root, work := impl.RangeRoot(impl.RangeOf(list)), impl.ChainWork(list)
		for many := range len(samples) + 1 {
			if !impl.SampleCheck(root, work, samples[:many]) {
				t.Fatalf("SampleCheck of the first %d is false", many)
			}
		}
		for _, s := range samples {
			if impl.RangeCheck(root, s.Head, s.At, s.Proof) == -1 || !impl.HeadMeets(s.Head) {
				t.Fatalf("SampleCheck is true, but %v is not proved", s)
			}
		}
		if sameSampleCheck(t, root, work, append(samples, samples[0])) {
			t.Fatalf("SampleCheck of %d is true", len(samples)+1)
		}
	}
}

func TestP34AnotherWork(t *testing.T) {
	for _, list := range sampleChains() {
		root, work := impl.RangeRoot(impl.RangeOf(list)), impl.ChainWork(list)
		samples := impl.SampleOf(list, impl.SampleMax)
		if impl.SampleCheck(root, work+1, samples) || impl.SampleCheck(root, work-1, samples) {
			t.Fatalf("SampleCheck is true with another work than %d", work)
		}
		// The samples below are at the points of the work that is told, as far as there is such a head.
		units := modelUnits(list)
		for told := 1; told <= impl.ChainMax*impl.DiffMax; told++ {
			point := impl.SampleAt(root, 0, told)
			if point >= work {
				continue
			}
			at := units[point]
			one := []impl.Sample{{At: at, Head: list[at], Proof: impl.RangeProof(list, at)}}
			if got := sameSampleCheck(t, root, told, one); got != (told == work) {
				t.Fatalf("SampleCheck of the work %d, told as %d, is %t", work, told, got)
			}
		}
	}
}

func TestP34AnotherHeadIsNoSample(t *testing.T) {
	first, last := 0, 0
	for _, list := range sampleChains() {
		root, units := impl.RangeRoot(impl.RangeOf(list)), modelUnits(list)
		samples := impl.SampleOf(list, impl.SampleMax)
		for k := range samples {
			point := impl.SampleAt(root, k, len(units))
			for at, h := range list {
				others := slices.Clone(samples)
				others[k] = impl.Sample{At: at, Head: h, Proof: impl.RangeProof(list, at)}
				if got := sameSampleCheck(t, root, len(units), others); got != (units[point] == at) {
					t.Fatalf("SampleCheck with the head at %d for the point %d is %t", at, point, got)
				}
			}
			if list[units[point]].Diff > 1 && slices.Index(units, units[point]) == point {
				first++
			}
			if list[units[point]].Diff > 1 && (point == len(units)-1 || units[point+1] != units[point]) {
				last++
			}
		}
	}
	if first < 5 || last < 5 {
		t.Errorf("only %d points are the first of a head's work, %d the last", first, last)
	}
}

func TestP34SamplesFallWithWhateverIsTurned(t *testing.T) {
	for _, list := range sampleChains() {
		root, work := impl.RangeRoot(impl.RangeOf(list)), impl.ChainWork(list)
		samples := impl.SampleOf(list, impl.SampleMax)
		for k, s := range samples {
			turned := slices.Repeat([]impl.Sample{s}, 5)
			turned[0].At++
			turned[1].At--
			turned[2].Head.Nonce++
			turned[3].Head = impl.Head{}
			turned[4] = impl.Sample{}
			for i := range s.Proof.Steps {
				steps := slices.Clone(s.Proof.Steps)
				steps[i].Work++
				turned = append(turned, impl.Sample{At: s.At, Head: s.Head, Proof: impl.Proof{Peaks: s.Proof.Peaks, Steps: steps}})
			}
			for i := range s.Proof.Peaks {
				peaks := slices.Clone(s.Proof.Peaks)
				peaks[i].Sum = otherSum(peaks[i].Sum, i)
				turned = append(turned, impl.Sample{At: s.At, Head: s.Head, Proof: impl.Proof{Peaks: peaks, Steps: s.Proof.Steps}})
			}
			for _, other := range turned {
				if sameSampleCheck(t, root, work, slices.Replace(slices.Clone(samples), k, k+1, other)) {
					t.Fatalf("SampleCheck with %v instead of %v is true", other, s)
				}
			}
		}
		for _, wrong := range append(wrongSums(), otherSum(root, 9), noughts) {
			if sameSampleCheck(t, wrong, work, samples) || sameSampleCheck(t, wrong, work, samples[:1]) {
				t.Fatalf("SampleCheck by the root %q is true", wrong)
			}
		}
	}
}

// Heads that are ok and stand where they are said to stand are no samples, if they are not hard enough.
func TestP34HeadsThatAreNotHardEnough(t *testing.T) {
	d := &dice{state: 34}
	good, bad := 0, 0
	for range 200 {
		list := d.heads(1 + d.below(4))
		root, work := impl.RangeRoot(impl.RangeOf(list)), len(modelUnits(list))
		samples := impl.SampleOf(list, 1+d.below(3))
		want := !slices.ContainsFunc(samples, func(s impl.Sample) bool { return !modelMeets(s.Head) })
		if got := sameSampleCheck(t, root, work, samples); got != want {
			t.Fatalf("SampleCheck of %v is %t", samples, got)
		}
		if want {
			good++
		} else {
			bad++
		}
	}
	if good < 10 || bad < 10 {
		t.Errorf("%d are hard enough, %d are not", good, bad)
	}
}

func TestP34WrongWorkOrRoot(t *testing.T) {
	root := modelSum("root")
	for _, none := range [][]impl.Sample{nil, {}} {
		for _, work := range []int{1, 2, 159, impl.ChainMax * impl.DiffMax} {
			if !sameSampleCheck(t, root, work, none) {
				t.Errorf("SampleCheck of no samples with the work %d is false", work)
			}
		}
		for _, work := range append(beyond(1, impl.ChainMax*impl.DiffMax), 0) {
			if sameSampleCheck(t, root, work, none) {
				t.Errorf("SampleCheck of no samples with the work %d is true", work)
			}
		}
		for _, wrong := range wrongSums() {
			if sameSampleCheck(t, wrong, 5, none) {
				t.Errorf("SampleCheck of no samples by the root %q is true", wrong)
			}
		}
	}
	if impl.SampleCheck(impl.RangeRoot(nil), 0, impl.SampleOf(nil, 3)) {
		t.Error("SampleCheck of no heads is true with the work 0")
	}
	for _, many := range []int{1, impl.SampleMax, impl.SampleMax + 1, 1000} {
		if sameSampleCheck(t, root, 5, make([]impl.Sample, many)) {
			t.Errorf("SampleCheck of %d samples that are nothing is true", many)
		}
	}
}

func TestP35PointIsWithinTheWork(t *testing.T) {
	d := &dice{state: 35}
	for range 40 {
		root := d.sum()
		for k := range impl.SampleMax {
			for work := 1; work <= impl.ChainMax*impl.DiffMax; work++ {
				got := impl.SampleAt(root, k, work)
				if got != modelPoint(root, k, work) || got < 0 || got >= work {
					t.Fatalf("SampleAt of %q, %d and %d is %d, not %d", root, k, work, got, modelPoint(root, k, work))
				}
				if got != impl.SumHead(impl.SumOf("sample "+root+" "+strconv.Itoa(k)))%work {
					t.Fatalf("SampleAt of %q, %d and %d is %d", root, k, work, got)
				}
			}
		}
	}
}

func TestP35NoPoint(t *testing.T) {
	root := modelSum("root")
	for _, wrong := range wrongSums() {
		if got := impl.SampleAt(wrong, 0, 1); got != -1 {
			t.Errorf("SampleAt of %q is %d", wrong, got)
		}
	}
	for _, k := range beyond(0, impl.SampleMax-1) {
		if got := impl.SampleAt(root, k, 9); got != -1 {
			t.Errorf("SampleAt of %d is %d", k, got)
		}
	}
	for _, work := range append(beyond(1, impl.ChainMax*impl.DiffMax), 0, -5) {
		if got := impl.SampleAt(root, 0, work); got != -1 {
			t.Errorf("SampleAt of the work %d is %d", work, got)
		}
	}
}
