package tests

import (
	"fmt"
	"slices"

	"loop.example/cordillera/impl"
)

// modelCounts is the powers of two that come to a number, the greatest first.
func modelCounts(many int) []int {
	var out []int
	for power := 1 << 20; power > 0; power /= 2 {
		if many >= power {
			out = append(out, power)
			many -= power
		}
	}
	return out
}

// modelJoin is the peak of two, whatever they are.
func modelJoin(a, b impl.Peak) impl.Peak {
	text := fmt.Sprintf("peak %s %d %d %s %d %d", a.Sum, a.Work, a.Count, b.Sum, b.Work, b.Count)
	return impl.Peak{Sum: modelSum(text), Work: a.Work + b.Work, Count: a.Count + b.Count}
}

// modelLeaf is the peak of a head, whatever it is.
func modelLeaf(h impl.Head) impl.Peak {
	return impl.Peak{Sum: modelSum("leaf " + modelHeadPut(h)), Work: h.Diff, Count: 1}
}

// modelPeak is the one peak of heads, as many as a power of two.
func modelPeak(list []impl.Head) impl.Peak {
	if len(list) == 1 {
		return modelLeaf(list[0])
	}
	half := len(list) / 2
	return modelJoin(modelPeak(list[:half]), modelPeak(list[half:]))
}

func modelRangeHeads(list []impl.Head) bool {
	return len(list) <= 20 && !slices.ContainsFunc(list, func(h impl.Head) bool { return !modelHeadOk(h) })
}

func modelRange(list []impl.Head) []impl.Peak {
	var out []impl.Peak
	if !modelRangeHeads(list) {
		return nil
	}
	for _, count := range modelCounts(len(list)) {
		out = append(out, modelPeak(list[:count]))
		list = list[count:]
	}
	return out
}

func modelPeakOk(p impl.Peak) bool {
	return modelIsSum(p.Sum) && p.Count >= 1 && p.Count <= 20 && p.Work >= p.Count && p.Work <= 8*p.Count
}

func modelRangeOk(list []impl.Peak) bool {
	var counts []int
	all := 0
	for _, p := range list {
		if !modelPeakOk(p) {
			return false
		}
		counts = append(counts, p.Count)
		all += p.Count
	}
	return all <= 20 && slices.Equal(counts, modelCounts(all))
}

func modelRangeMany(list []impl.Peak) (int, int) {
	if !modelRangeOk(list) {
		return -1, -1
	}
	if len(list) == 0 {
		return 0, 0
	}
	many, work := modelRangeMany(list[1:])
	return many + list[0].Count, work + list[0].Work
}

func modelRangeRoot(list []impl.Peak) string {
	if !modelRangeOk(list) {
		return ""
	}
	text := "range"
	for _, p := range list {
		text = fmt.Sprint(text, " ", p.Sum, " ", p.Work, " ", p.Count)
	}
	return modelSum(text)
}

// modelRangeAdd joins as many of the last peaks as the number of heads ends with bits 1.
func modelRangeAdd(list []impl.Peak, h impl.Head) ([]impl.Peak, bool) {
	many, _ := modelRangeMany(list)
	if many == -1 || !modelHeadOk(h) {
		return nil, false
	}
	if many == 20 {
		return list, false
	}
	peak := modelLeaf(h)
	rest := slices.Clone(list)
	for ; many%2 == 1; many /= 2 {
		peak = modelJoin(rest[len(rest)-1], peak)
		rest = rest[:len(rest)-1]
	}
	return append(rest, peak), true
}

// modelSteps is the peaks beside the way of a head in a peak of all heads.
func modelSteps(list []impl.Head, at int) []impl.Peak {
	half := len(list) / 2
	switch {
	case half == 0:
		return nil
	case at < half:
		return append(modelSteps(list[:half], at), modelPeak(list[half:]))
	}
	return append(modelSteps(list[half:], at-half), modelPeak(list[:half]))
}

func modelProof(list []impl.Head, at int) impl.Proof {
	if !modelRangeHeads(list) || at < 0 || at >= len(list) {
		return impl.Proof{}
	}
	out := impl.Proof{Peaks: modelRange(list)}
	from := 0
	for _, count := range modelCounts(len(list)) {
		if at >= from && at < from+count {
			out.Steps = modelSteps(list[from:from+count], at-from)
		}
		from += count
	}
	return out
}

// modelClimb is the peak to which steps lead from a head, and the work of those on the left; false, if they cannot.
func modelClimb(h impl.Head, at int, steps []impl.Peak) (impl.Peak, int, bool) {
	if len(steps) == 0 {
		return modelLeaf(h), 0, modelHeadOk(h)
	}
	last := steps[len(steps)-1]
	below, left, ok := modelClimb(h, at, steps[:len(steps)-1])
	if !ok || !modelPeakOk(last) || last.Count != below.Count {
		return impl.Peak{}, 0, false
	}
	if at%(2*below.Count) < below.Count {
		return modelJoin(below, last), left, true
	}
	return modelJoin(last, below), left + last.Work, true
}

func modelRangeCheck(root string, h impl.Head, at int, p impl.Proof) int {
	if !modelRangeOk(p.Peaks) || modelRangeRoot(p.Peaks) != root || len(p.Steps) > 8 || at < 0 {
		return -1
	}
	// Which peak each place is in, and where in it.
	var peaks, places, works []int
	work := 0
	for i, peak := range p.Peaks {
		for place := range peak.Count {
			peaks, places, works = append(peaks, i), append(places, place), append(works, work)
		}
		work += peak.Work
	}
	if at >= len(peaks) {
		return -1
	}
	top, left, ok := modelClimb(h, places[at], p.Steps)
	if !ok || top != p.Peaks[peaks[at]] {
		return -1
	}
	return works[at] + left
}

func modelPoint(root string, k int, work int) int {
	if !modelIsSum(root) || k < 0 || k > 5 || work < 1 || work > 160 {
		return -1
	}
	return modelHead(modelSum(fmt.Sprintf("sample %s %d", root, k))) % work
}

// modelUnits is the place of the head of each unit of work.
func modelUnits(list []impl.Head) []int {
	var out []int
	for i, h := range list {
		out = append(out, slices.Repeat([]int{i}, h.Diff)...)
	}
	return out
}

func modelSamples(list []impl.Head, many int) []impl.Sample {
	var out []impl.Sample
	if !modelRangeHeads(list) || many > 6 || len(list) == 0 {
		return nil
	}
	units, root := modelUnits(list), modelRangeRoot(modelRange(list))
	for k := 0; k < many; k++ {
		at := units[modelPoint(root, k, len(units))]
		out = append(out, impl.Sample{At: at, Head: list[at], Proof: modelProof(list, at)})
	}
	return out
}

func modelSampleCheck(root string, work int, list []impl.Sample) bool {
	if modelPoint(root, 0, work) == -1 || len(list) > 6 {
		return false
	}
	for k, s := range list {
		_, all := modelRangeMany(s.Proof.Peaks)
		ahead := modelRangeCheck(root, s.Head, s.At, s.Proof)
		into := modelPoint(root, k, work) - ahead
		if all != work || ahead == -1 || into < 0 || into >= s.Head.Diff || !modelMeets(s.Head) {
			return false
		}
	}
	return true
}

func sameProof(a, b impl.Proof) bool {
	return slices.Equal(a.Peaks, b.Peaks) && slices.Equal(a.Steps, b.Steps)
}

func sameSamples(a, b []impl.Sample) bool {
	return slices.EqualFunc(a, b, func(a, b impl.Sample) bool {
		return a.At == b.At && a.Head == b.Head && sameProof(a.Proof, b.Proof)
	})
}

// heads is heads that are ok, and no chain.
func (d *dice) heads(many int) []impl.Head {
	var out []impl.Head
	for range many {
		out = append(out, d.head())
	}
	return out
}

// peak is a peak that is ok, its work at an edge or between.
func (d *dice) peak(count int) impl.Peak {
	work := []int{count, 8 * count, count + d.below(7*count+1)}[d.below(3)]
	return impl.Peak{Sum: d.sum(), Work: work, Count: count}
}

// peaks is a range that is ok, of so many heads, whatever its peaks are.
func (d *dice) peaks(many int) []impl.Peak {
	var out []impl.Peak
	for _, count := range modelCounts(many) {
		out = append(out, d.peak(count))
	}
	return out
}
