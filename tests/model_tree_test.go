package tests

import (
	"math/bits"
	"slices"

	"loop.example/cordillera/impl"
)

// modelCover is the peaks of the tree over all heads that lie within the places from..to-1 and in no other such; each half of a peak begins at a place that its size divides.
func modelCover(list []impl.Head, from, to, at, size int) []impl.Peak {
	switch {
	case at >= to || at+size <= from:
		return nil
	case at >= from && at+size <= to:
		return []impl.Peak{modelPeak(list[at : at+size])}
	}
	return append(modelCover(list, from, to, at, size/2), modelCover(list, from, to, at+size/2, size/2)...)
}

func modelPrefix(list []impl.Head, many int) []impl.Peak {
	if !modelRangeHeads(list) || many < 0 || many > len(list) {
		return nil
	}
	return modelCover(list, many, len(list), 0, 32)
}

// modelPush adds a peak to a range; it can stand there just if its count is a power of two that divides how many there are, and joins as many as the rest of that ends with bits 1.
func modelPush(list []impl.Peak, p impl.Peak) ([]impl.Peak, bool) {
	many, _ := modelRangeMany(list)
	if many == -1 || !modelPeakOk(p) || bits.OnesCount(uint(p.Count)) != 1 || many%p.Count != 0 || many+p.Count > 20 {
		return nil, false
	}
	rest := slices.Clone(list)
	for many /= p.Count; many%2 == 1; many /= 2 {
		p = modelJoin(rest[len(rest)-1], p)
		rest = rest[:len(rest)-1]
	}
	return append(rest, p), true
}

func modelPrefixCheck(list []impl.Peak, root string, more []impl.Peak) bool {
	if !modelRangeOk(list) || len(more) > 8 {
		return false
	}
	for _, p := range more {
		next, ok := modelPush(list, p)
		if !ok {
			return false
		}
		list = next
	}
	return modelRangeRoot(list) == root
}

// modelLead is the blocks that lead to the one of a sum, found one ahead of the other.
func modelLead(list []impl.Block, sum string) []impl.Block {
	for _, b := range list {
		if modelHeadSum(b.Head) == sum {
			return append(modelLead(list, b.Head.Prev), b)
		}
	}
	return nil
}

func sumsOf(list []impl.Block) []string {
	var out []string
	for _, b := range list {
		out = append(out, modelHeadSum(b.Head))
	}
	return out
}

func modelCanAdd(list []impl.Block, b impl.Block) bool {
	sums := sumsOf(list)
	if !modelBlockOk(b) || len(list) >= 24 || slices.Contains(sums, modelHeadSum(b.Head)) {
		return false
	}
	if b.Head.Prev != noughts && !slices.Contains(sums, b.Head.Prev) {
		return false
	}
	return modelCheck(headsOf(append(modelLead(list, b.Head.Prev), b))) == 0
}

func modelTreeOk(list []impl.Block) bool {
	if len(list) > 24 {
		return false
	}
	for i, b := range list {
		if !modelCanAdd(list[:i], b) {
			return false
		}
	}
	return true
}

func modelTreeAdd(list []impl.Block, b impl.Block) ([]impl.Block, bool) {
	if !modelTreeOk(list) {
		return nil, false
	}
	if !modelCanAdd(list, b) {
		return list, false
	}
	return append(slices.Clone(list), b), true
}

func modelTreeChain(list []impl.Block, sum string) []impl.Block {
	if !modelTreeOk(list) {
		return nil
	}
	return modelLead(list, sum)
}

// modelTreeBest holds each of all chains, tips or not, against each.
func modelTreeBest(list []impl.Block) []impl.Block {
	if !modelTreeOk(list) {
		return nil
	}
	var best []impl.Block
	for _, sum := range sumsOf(list) {
		if chain := modelLead(list, sum); modelBetter(headsOf(chain), headsOf(best)) {
			best = chain
		}
	}
	return best
}

// modelTreeTips counts how often each sum is named.
func modelTreeTips(list []impl.Block) []string {
	if !modelTreeOk(list) {
		return nil
	}
	named := map[string]int{}
	for _, b := range list {
		named[b.Head.Prev]++
	}
	out := slices.DeleteFunc(sumsOf(list), func(sum string) bool { return named[sum] > 0 })
	slices.Sort(out)
	return out
}

// tree is blocks of the model, each behind any that came ahead, or first.
func (d *dice) tree(many int) []impl.Block {
	var out []impl.Block
	for len(out) < many {
		var ahead []impl.Block
		if at := d.below(len(out)+2) - 1; at >= 0 && at < len(out) {
			ahead = modelLead(out, modelHeadSum(out[at].Head))
		}
		if b, ok := d.blockBehind(ahead); ok && modelCanAdd(out, b) {
			out = append(out, b)
		}
	}
	return out
}

// blockBehind is a block behind a chain, soon or later.
func (d *dice) blockBehind(ahead []impl.Block) (impl.Block, bool) {
	_, last := modelBehind(headsOf(ahead))
	list, ok := modelChainMine(ahead, last+1+d.below(25), d.items(d.below(7)))
	if !ok {
		return impl.Block{}, false
	}
	return list[len(list)-1], true
}

// order is a list in any order.
func order[T any](d *dice, list []T) []T {
	out := slices.Clone(list)
	for i := range out {
		k := i + d.below(len(out)-i)
		out[i], out[k] = out[k], out[i]
	}
	return out
}
