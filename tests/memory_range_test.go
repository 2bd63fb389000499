package tests

import (
	"slices"
	"strings"
	"testing"

	"loop.example/cordillera/impl"
)

var (
	markHead = impl.Head{Prev: "mark", Time: -1}
	markPeak = impl.Peak{Sum: "mark", Work: -1}
	spoiltAt = impl.Peak{Sum: "SPOILT", Work: -9, Count: -9}
)

// guardedProof is a proof with marks behind the end of both lists, and a check that none of it changed.
func guardedProof(t *testing.T, p impl.Proof) (impl.Proof, func(what string)) {
	peaks, peaksCheck := guarded(t, markPeak, p.Peaks...)
	steps, stepsCheck := guarded(t, markPeak, p.Steps...)
	return impl.Proof{Peaks: peaks, Steps: steps}, func(what string) {
		t.Helper()
		peaksCheck(what)
		stepsCheck(what)
	}
}

// guardedSamples is samples with marks behind the end of each list, and a check that none of it changed.
func guardedSamples(t *testing.T, list []impl.Sample) ([]impl.Sample, func(what string)) {
	mark := impl.Sample{At: -77, Head: markHead}
	all := append(slices.Clone(list), slices.Repeat([]impl.Sample{mark}, 8)...)
	var checks []func(string)
	for i := range list {
		proof, check := guardedProof(t, list[i].Proof)
		all[i].Proof = proof
		checks = append(checks, check)
	}
	was := deepSamples(all)
	return all[:len(list)], func(what string) {
		t.Helper()
		for _, check := range checks {
			check(what)
		}
		if !sameSamples(all, was) {
			t.Errorf("%s wrote into its samples, or behind them: %v, not %v", what, all, was)
		}
	}
}

// deepPeaks is peaks with texts of their own.
func deepPeaks(list []impl.Peak) []impl.Peak {
	out := slices.Clone(list)
	for i := range out {
		out[i].Sum = strings.Clone(out[i].Sum)
	}
	return out
}

func deepProof(p impl.Proof) impl.Proof {
	return impl.Proof{Peaks: deepPeaks(p.Peaks), Steps: deepPeaks(p.Steps)}
}

func deepHead(h impl.Head) impl.Head {
	h.Prev, h.Root = strings.Clone(h.Prev), strings.Clone(h.Root)
	return h
}

// deepSamples is samples with lists and texts of their own.
func deepSamples(list []impl.Sample) []impl.Sample {
	out := slices.Clone(list)
	for i, s := range out {
		out[i] = impl.Sample{At: s.At, Head: deepHead(s.Head), Proof: deepProof(s.Proof)}
	}
	return out
}

func TestNothingIsWrittenIntoHeadsOfRanges(t *testing.T) {
	for _, list := range append(headLists(), wrongHeadLists()...) {
		heads, check := guarded(t, markHead, list...)
		impl.RangeOf(heads)
		check("RangeOf")
		for at := -1; at <= min(len(heads), 25); at++ {
			impl.RangeProof(heads, at)
			check("RangeProof")
		}
		for many := -1; many <= impl.SampleMax+1; many++ {
			impl.SampleOf(heads, many)
			check("SampleOf")
		}
	}
}

func TestNothingIsWrittenIntoPeaks(t *testing.T) {
	d := &dice{state: 93}
	lists := wrongRanges()
	for many := range impl.ChainMax + 1 {
		lists = append(lists, d.peaks(many))
	}
	for _, list := range lists {
		peaks, check := guarded(t, markPeak, list...)
		impl.RangeOk(peaks)
		check("RangeOk")
		impl.RangeAdd(peaks, goodHead())
		check("RangeAdd")
		impl.RangeAdd(peaks, impl.Head{})
		check("RangeAdd of a wrong head")
		impl.RangeRoot(peaks)
		check("RangeRoot")
		impl.RangeMany(peaks)
		check("RangeMany")
	}
}

func TestNothingIsWrittenIntoProofsAndSamples(t *testing.T) {
	for _, heads := range sampleChains() {
		root, work := modelRangeRoot(modelRange(heads)), len(modelUnits(heads))
		for at, h := range heads {
			proof, check := guardedProof(t, modelProof(heads, at))
			for _, place := range []int{at, at + 1, -1} {
				impl.RangeCheck(root, h, place, proof)
				check("RangeCheck")
			}
			impl.RangeCheck(noughts, h, at, proof)
			check("RangeCheck by another root")
			impl.RangeCheck(root, impl.Head{}, at, proof)
			check("RangeCheck of a wrong head")
		}
		samples, check := guardedSamples(t, modelSamples(heads, impl.SampleMax))
		impl.SampleCheck(root, work, samples)
		check("SampleCheck")
		impl.SampleCheck(root, work+1, samples)
		check("SampleCheck of another work")
		impl.SampleCheck("", -1, samples)
		check("SampleCheck of nothing")
	}
}

func TestRangesAreNewMemory(t *testing.T) {
	d := &dice{state: 94}
	for many := range impl.ChainMax + 1 {
		heads := d.heads(many)
		first, second := impl.RangeOf(heads), impl.RangeOf(heads)
		spoil(first, spoiltAt)
		if !slices.Equal(second, modelRange(heads)) {
			t.Fatalf("RangeOf of %d heads shares memory: %v", many, second)
		}
		for _, h := range []impl.Head{goodHead(), {}} {
			peaks, check := guarded(t, markPeak, d.peaks(many)...)
			want, _ := modelRangeAdd(slices.Clone(peaks), h)
			first, _ := impl.RangeAdd(peaks, h)
			spoil(first, spoiltAt)
			check("what was written into the answer of RangeAdd")
			want = slices.Clone(want)
			second, _ := impl.RangeAdd(peaks, h)
			spoil(peaks, spoiltAt)
			if !slices.Equal(second, want) {
				t.Fatalf("the answer of RangeAdd changed with its argument: %v, not %v", second, want)
			}
		}
	}
}

func TestProofsAndSamplesAreNewMemory(t *testing.T) {
	for _, heads := range sampleChains() {
		for at := range heads {
			want := modelProof(heads, at)
			one, two := impl.RangeProof(heads, at), impl.RangeProof(heads, at)
			spoil(one.Peaks, spoiltAt)
			if !slices.Equal(one.Steps, want.Steps) || !sameProof(two, want) {
				t.Fatalf("the peaks of RangeProof at %d share memory: %v, %v", at, one, two)
			}
			one = impl.RangeProof(heads, at)
			spoil(one.Steps, spoiltAt)
			if !slices.Equal(one.Peaks, want.Peaks) || !sameProof(two, want) {
				t.Fatalf("the steps of RangeProof at %d share memory: %v, %v", at, one, two)
			}
		}
		want := modelSamples(heads, impl.SampleMax)
		for k := range want {
			got, other := impl.SampleOf(heads, impl.SampleMax), impl.SampleOf(heads, impl.SampleMax)
			spoil(got[k].Proof.Peaks, spoiltAt)
			if !slices.Equal(got[k].Proof.Steps, want[k].Proof.Steps) {
				t.Fatalf("peaks and steps of the sample %d share memory: %v", k, got[k])
			}
			spoil(got[k].Proof.Steps, spoiltAt)
			got[k] = want[k]
			if !sameSamples(got, want) || !sameSamples(other, want) {
				t.Fatalf("the lists of the sample %d share memory with others: %v", k, got)
			}
			spoil(got, impl.Sample{At: -9})
			if !sameSamples(other, want) {
				t.Fatalf("SampleOf shares memory: %v", other)
			}
		}
	}
}

func TestRangesShareNoText(t *testing.T) {
	heads := headsOf((&dice{state: 95}).chain(nil, steps(0, 3, 11)))
	var gone []func()
	loose := func(s *string) {
		text, drop := looseText(*s)
		*s = text
		gone = append(gone, drop)
	}
	own := make([]impl.Head, len(heads))
	for i, h := range heads {
		own[i] = h
		loose(&own[i].Prev)
		loose(&own[i].Root)
	}
	short, full := (&dice{state: 96}).peaks(11), (&dice{state: 97}).peaks(impl.ChainMax)
	wantShort, _ := modelRangeAdd(short, heads[0])
	wantShort, wantFull := deepPeaks(wantShort), deepPeaks(full)
	for _, list := range [][]impl.Peak{short, full} {
		for i := range list {
			loose(&list[i].Sum)
		}
	}
	gotShort, _ := impl.RangeAdd(short, own[0])
	gotFull, _ := impl.RangeAdd(full, own[0])
	peaks, proof, samples := impl.RangeOf(own), impl.RangeProof(own, 6), impl.SampleOf(own, impl.SampleMax)
	for _, drop := range gone {
		drop()
	}
	if !slices.Equal(gotShort, wantShort) || !slices.Equal(gotFull, wantFull) {
		t.Errorf("the answer of RangeAdd changed with its argument: %v, %v", gotShort, gotFull)
	}
	if !slices.Equal(peaks, modelRange(heads)) || !sameProof(proof, modelProof(heads, 6)) || !sameSamples(samples, modelSamples(heads, impl.SampleMax)) {
		t.Errorf("an answer changed with its heads: %v, %v, %v", peaks, proof, samples)
	}
}

func TestRangesKeepNothingBetweenCalls(t *testing.T) {
	d := &dice{state: 98}
	heads, other := d.heads(13), d.heads(9)
	peaks, proof, samples := impl.RangeOf(heads), impl.RangeProof(heads, 4), impl.SampleOf(heads, 5)
	impl.RangeOf(other)
	impl.RangeAdd(peaks, other[0])
	impl.RangeProof(other, 8)
	impl.RangeCheck(noughts, other[0], 3, proof)
	impl.SampleOf(other, impl.SampleMax)
	impl.SampleCheck(noughts, 5, samples)
	impl.SampleOf(nil, 3)
	if !slices.Equal(impl.RangeOf(heads), peaks) || !sameProof(impl.RangeProof(heads, 4), proof) || !sameSamples(impl.SampleOf(heads, 5), samples) {
		t.Error("an answer hangs on the calls ahead")
	}
}
