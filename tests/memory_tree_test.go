package tests

import (
	"fmt"
	"slices"
	"testing"

	"loop.example/cordillera/impl"
)

// treeArgs is what comes in to a call of first heads or trees.
type treeArgs struct {
	blocks []impl.Block
	block  impl.Block
	sum    string
	heads  []impl.Head
	peaks  []impl.Peak
	more   []impl.Peak
	root   string
}

// treeCall is a call of a function of first heads or trees: what it answers.
type treeCall struct {
	what string
	call func(a treeArgs) []any
}

// treeCalls is a call of each kind, right and wrong ones.
func treeCalls() []treeCall {
	out := []treeCall{
		{"TreeOk", func(a treeArgs) []any { return []any{impl.TreeOk(impl.Tree{Blocks: a.blocks})} }},
		{"TreeAdd", func(a treeArgs) []any { return pair(impl.TreeAdd(impl.Tree{Blocks: a.blocks}, a.block)) }},
		{"TreeAdd of nothing", func(a treeArgs) []any { return pair(impl.TreeAdd(impl.Tree{Blocks: a.blocks}, impl.Block{})) }},
		{"TreeChain", func(a treeArgs) []any { return []any{impl.TreeChain(impl.Tree{Blocks: a.blocks}, a.sum)} }},
		{"TreeChain to no block", func(a treeArgs) []any { return []any{impl.TreeChain(impl.Tree{Blocks: a.blocks}, a.root)} }},
		{"TreeBest", func(a treeArgs) []any { return []any{impl.TreeBest(impl.Tree{Blocks: a.blocks})} }},
		{"TreeTips", func(a treeArgs) []any { return []any{impl.TreeTips(impl.Tree{Blocks: a.blocks})} }},
		{"PrefixCheck", func(a treeArgs) []any { return []any{impl.PrefixCheck(a.peaks, a.root, a.more)} }},
		{"PrefixCheck by another root", func(a treeArgs) []any { return []any{impl.PrefixCheck(a.peaks, a.sum, a.more)} }},
		{"PrefixCheck the other way round", func(a treeArgs) []any { return []any{impl.PrefixCheck(a.more, a.root, a.peaks)} }},
	}
	for many := -1; many <= impl.ChainMax+1; many++ {
		out = append(out, treeCall{fmt.Sprint("PrefixOf behind ", many), func(a treeArgs) []any { return []any{impl.PrefixOf(a.heads, many)} }})
	}
	return out
}

// treeCases is what comes in, right and wrong.
func treeCases() []treeArgs {
	d := &dice{state: 96}
	var out []treeArgs
	for i, list := range goodTrees() {
		a := treeArgs{blocks: list, block: d.unlike(list, nil), sum: noughts, heads: d.heads(i % (impl.ChainMax + 1))}
		if len(list) > 0 {
			a.sum = sumAt(list[d.below(len(list))])
		}
		many := d.below(len(a.heads) + 1)
		a.peaks, a.more, a.root = modelRange(a.heads[:many]), modelPrefix(a.heads, many), modelRangeRoot(modelRange(a.heads))
		out = append(out, a)
	}
	ranges, heads := wrongRanges(), wrongHeadLists()
	for i, list := range wrongChains() {
		a := treeArgs{blocks: list, block: list[0], sum: noughts, heads: heads[i], peaks: ranges[i], more: ranges[len(ranges)-2-i], root: "root"}
		out = append(out, a)
	}
	return append(out, treeArgs{})
}

// deepArgs is what comes in, with lists and texts of its own.
func deepArgs(a treeArgs) treeArgs {
	texts := deepTexts([]string{a.sum, a.root})
	out := treeArgs{blocks: deepBlocks(a.blocks), block: deepBlocks([]impl.Block{a.block})[0], sum: texts[0], root: texts[1], peaks: deepPeaks(a.peaks), more: deepPeaks(a.more)}
	for _, h := range a.heads {
		out.heads = append(out.heads, deepHead(h))
	}
	return out
}

func TestNothingIsWrittenIntoTrees(t *testing.T) {
	for _, one := range treeCases() {
		blocks, blocksCheck := guardedBlocks(t, one.blocks)
		block, blockCheck := guardedBlocks(t, []impl.Block{one.block})
		heads, headsCheck := guarded(t, markHead, one.heads...)
		peaks, peaksCheck := guarded(t, markPeak, one.peaks...)
		more, moreCheck := guarded(t, markPeak, one.more...)
		for _, c := range treeCalls() {
			c.call(treeArgs{blocks: blocks, block: block[0], sum: one.sum, heads: heads, peaks: peaks, more: more, root: one.root})
			for _, check := range []func(string){blocksCheck, blockCheck, headsCheck, peaksCheck, moreCheck} {
				check(c.what)
			}
		}
	}
}

func TestTreesAreNewMemory(t *testing.T) {
	for _, one := range treeCases() {
		a := deepArgs(one)
		for _, c := range treeCalls() {
			checkApart(t, c.what, c.call(a), []any{a.blocks, a.block, a.sum, a.heads, a.peaks, a.more, a.root})
		}
	}
}

// Blocks may share their items when they come in; no two lists that come out do.
func TestTreesShareNoList(t *testing.T) {
	same := []string{"a", "b", "a"}
	var list []impl.Block
	for i := range 6 {
		list, _ = modelChainMine(list, i*7, same)
		list[i].Items = same
	}
	for i := range 4 {
		branch, _ := modelChainMine(list[:i+1], i*7+3, same)
		branch[i+1].Items = same
		list = append(list, branch[i+1])
	}
	last, _ := modelChainMine(list[:3], 19, same)
	last[3].Items = same
	peaks := (&dice{state: 960}).peaks(7)
	a := treeArgs{blocks: list, block: last[3], sum: sumAt(list[5]), heads: headsOf(list), peaks: peaks, more: peaks, root: noughts}
	if _, ok := impl.TreeAdd(impl.Tree{Blocks: list}, last[3]); !ok {
		t.Fatal("TreeAdd is false")
	}
	for _, c := range treeCalls() {
		checkApart(t, c.what, c.call(a), []any{list, same, a.heads, peaks})
	}
}

// looseArgs is what comes in, and a function that overwrites all its texts.
func looseArgs(one treeArgs) (treeArgs, func()) {
	own := deepArgs(one)
	texts := []*string{&own.sum, &own.root}
	for i := range own.heads {
		texts = append(texts, &own.heads[i].Prev, &own.heads[i].Root)
	}
	for _, peaks := range [][]impl.Peak{own.peaks, own.more} {
		for i := range peaks {
			texts = append(texts, &peaks[i].Sum)
		}
	}
	ofBlock := func(b *impl.Block) {
		texts = append(texts, &b.Head.Prev, &b.Head.Root)
		for i := range b.Items {
			texts = append(texts, &b.Items[i])
		}
	}
	ofBlock(&own.block)
	for i := range own.blocks {
		ofBlock(&own.blocks[i])
	}
	var gone []func()
	for _, s := range texts {
		text, drop := looseText(*s)
		*s = text
		gone = append(gone, drop)
	}
	return own, func() {
		for _, drop := range gone {
			drop()
		}
	}
}

// Texts of arguments are overwritten behind the call; the answer is as it was.
func TestTreesShareNoText(t *testing.T) {
	for i, one := range treeCases() {
		if i%4 != 0 {
			continue
		}
		for _, c := range treeCalls() {
			want := fmt.Sprintf("%#v", c.call(one))
			own, gone := looseArgs(one)
			answer := c.call(own)
			gone()
			if got := fmt.Sprintf("%#v", answer); got != want {
				t.Errorf("%s: the answer changed with an argument: %s, not %s", c.what, got, want)
			}
		}
	}
}

// A tree is gone through by sums: what is told must not hang on how a map is gone through.
func TestTreesKeepNothingBetweenCalls(t *testing.T) {
	cases := treeCases()
	one, other := cases[len(goodTrees())-1], cases[20]
	first := map[string]string{}
	tell := func(a treeArgs, c treeCall) string { return fmt.Sprintf("%#v", c.call(a)) }
	for _, c := range treeCalls() {
		first[c.what] = tell(one, c)
		tell(other, c)
	}
	for range 20 {
		for _, c := range slices.Backward(treeCalls()) {
			if got := tell(one, c); got != first[c.what] {
				t.Errorf("%s hangs on the calls ahead: %s, not %s", c.what, got, first[c.what])
			}
		}
	}
}
