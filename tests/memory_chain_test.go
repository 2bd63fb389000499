package tests

import (
	"slices"
	"strings"
	"testing"

	"loop.example/cordillera/impl"
)

// deepBlocks is blocks with lists and texts of their own.
func deepBlocks(list []impl.Block) []impl.Block {
	out := slices.Clone(list)
	for i, b := range out {
		out[i].Head.Prev, out[i].Head.Root = strings.Clone(b.Head.Prev), strings.Clone(b.Head.Root)
		out[i].Items = slices.Clone(b.Items)
		for k, item := range b.Items {
			out[i].Items[k] = strings.Clone(item)
		}
	}
	return out
}

// guardedBlocks is blocks with marks behind the end of each list, and a check that none of it changed.
func guardedBlocks(t *testing.T, list []impl.Block) ([]impl.Block, func(what string)) {
	mark := impl.Block{Head: impl.Head{Prev: "mark"}, Items: []string{"mark"}}
	all := append(slices.Clone(list), slices.Repeat([]impl.Block{mark}, 8)...)
	var checks []func(string)
	for i := range list {
		items, check := guarded(t, "mark", list[i].Items...)
		all[i].Items = items
		checks = append(checks, check)
	}
	was := deepBlocks(all)
	return all[:len(list)], func(what string) {
		t.Helper()
		for _, check := range checks {
			check(what)
		}
		if !sameBlocks(all, was) {
			t.Errorf("%s wrote into its blocks, or behind them: %v, not %v", what, all, was)
		}
	}
}

func TestNothingIsWrittenIntoItemsAndSides(t *testing.T) {
	for _, texts := range [][]string{{}, {"a"}, {"z", "b", "z", "a", "b"}, {"z", "A", "a"}, numbered(impl.ListMax), numbered(impl.ListMax + 1)} {
		items, check := guarded(t, "mark", texts...)
		impl.RootOf(items)
		check("RootOf")
		for at := -1; at <= len(items); at++ {
			sides, sidesCheck := guarded(t, impl.Side{Sum: "mark"}, impl.RootProof(items, at)...)
			check("RootProof")
			impl.RootCheck(noughts, "a", sides)
			sidesCheck("RootCheck")
		}
		for _, diff := range []int{1, 9} {
			b := impl.Block{Head: forced(nil, func(*impl.Head) {}), Items: items}
			b.Head.Root, b.Head.Diff = modelRoot(items), diff
			impl.BlockOk(b)
			check("BlockOk")
			impl.BlockFilter(b)
			check("BlockFilter")
		}
		for _, list := range [][]impl.Block{nil, goodChain()} {
			for _, time := range []int{-1, 30} {
				impl.ChainMine(list, time, items)
				check("ChainMine")
			}
		}
	}
}

func TestNothingIsWrittenIntoHeadsAndBlocks(t *testing.T) {
	lists := append(wrongChains(), nil, goodChain(), (&dice{state: 90}).chain(nil, steps(0, 1, impl.ChainMax)))
	for _, list := range lists {
		blocks, check := guardedBlocks(t, list)
		impl.ChainOk(blocks)
		check("ChainOk")
		impl.ChainMarks(blocks)
		check("ChainMarks")
		for _, time := range []int{-1, 2, 500} {
			for _, items := range [][]string{nil, {"a", "b"}, {"A"}} {
				impl.ChainMine(blocks, time, items)
				check("ChainMine")
			}
		}
		heads, headsCheck := guarded(t, impl.Head{Prev: "mark"}, headsOf(list)...)
		impl.ChainCheck(heads)
		headsCheck("ChainCheck")
		impl.ChainDiff(heads)
		headsCheck("ChainDiff")
		impl.ChainWork(heads)
		headsCheck("ChainWork")
		impl.ChainBetter(heads, headsOf(goodChain()))
		impl.ChainBetter(headsOf(goodChain()), heads)
		impl.ChainBetter(heads, heads)
		headsCheck("ChainBetter")
		impl.ChainFork(heads, headsOf(goodChain()))
		impl.ChainFork(headsOf(goodChain()), heads)
		impl.ChainFork(heads, heads)
		headsCheck("ChainFork")
	}
}

// spoilBlocks overwrites blocks, their items, and the spare room of both.
func spoilBlocks(list []impl.Block) {
	for _, b := range list[:cap(list)] {
		spoil(b.Items, "SPOILT")
	}
	spoil(list, impl.Block{Items: []string{"SPOILT"}})
}

// mineCalls is calls of ChainMine that tell blocks: one more, and as they are.
func mineCalls() []func(list []impl.Block) ([]impl.Block, bool) {
	return []func(list []impl.Block) ([]impl.Block, bool){
		func(list []impl.Block) ([]impl.Block, bool) { return impl.ChainMine(list, 5000, []string{"x", "y"}) },
		func(list []impl.Block) ([]impl.Block, bool) { return impl.ChainMine(list, 5000, nil) },
		func(list []impl.Block) ([]impl.Block, bool) { return impl.ChainMine(list, -1, []string{"x"}) },
	}
}

func TestMinedBlocksAreNewMemory(t *testing.T) {
	d := &dice{state: 91}
	for _, chain := range [][]impl.Block{nil, goodChain(), d.chain(nil, steps(0, 3, 19)), d.chain(nil, steps(0, 3, impl.ChainMax))} {
		for _, mine := range mineCalls() {
			list, check := guardedBlocks(t, chain)
			answer, _ := mine(list)
			want := deepBlocks(answer)
			spoilBlocks(answer)
			check("what was written into the answer of ChainMine")
			answer, _ = mine(list)
			spoilBlocks(list)
			if !sameBlocks(answer, want) {
				t.Fatalf("the answer of ChainMine changed with its argument: %v, not %v", answer, want)
			}
		}
	}
}

func TestMinedBlocksShareNoList(t *testing.T) {
	same := []string{"a", "b", "c"}
	var chain []impl.Block
	for i := range 6 {
		more, ok := impl.ChainMine(chain, i*7, same)
		if !ok {
			t.Fatal("ChainMine is false")
		}
		// Blocks of one chain may share their items with each other when they come in.
		for k := range more {
			more[k].Items = same
		}
		chain = more
	}
	for _, mine := range mineCalls() {
		for at := range chain {
			answer, _ := mine(chain)
			want := deepBlocks(answer)
			spoil(answer[at].Items, "SPOILT")
			want[at].Items = answer[at].Items
			if !sameBlocks(answer, want) || !slices.Equal(same, []string{"a", "b", "c"}) {
				t.Fatalf("the items of block %d share memory with others: %v", at, answer)
			}
		}
	}
	items := []string{"x", "y"}
	answer, _ := impl.ChainMine(chain, 5000, items)
	spoil(answer[len(chain)].Items, "SPOILT")
	if !slices.Equal(items, []string{"x", "y"}) {
		t.Errorf("the items of the new block share memory with the argument: %q", items)
	}
}

func TestSidesAndMarksAreNewMemory(t *testing.T) {
	items, chain := numbered(11), goodChain()
	for at := range items {
		first, second := impl.RootProof(items, at), impl.RootProof(items, at)
		spoil(first, impl.Side{Sum: "SPOILT"})
		if !slices.Equal(second, modelSides(items, at)) || !slices.Equal(items, numbered(11)) {
			t.Errorf("RootProof at %d shares memory: %v", at, second)
		}
	}
	first, second := impl.ChainMarks(chain), impl.ChainMarks(chain)
	spoil(first, "SPOILT")
	if !slices.Equal(second, modelMarks(chain)) || !sameBlocks(chain, goodChain()) {
		t.Errorf("ChainMarks shares memory: %q", second)
	}
}

func TestHeadsShareNoText(t *testing.T) {
	want := forced(nil, func(*impl.Head) {})
	written, writtenGone := looseText(impl.HeadPut(want))
	read, _ := impl.HeadGet(written)
	prev, prevGone := looseText(want.Prev)
	root, rootGone := looseText(want.Root)
	mined, _ := impl.HeadMine(impl.Head{Prev: prev, Root: root, Time: want.Time, Diff: want.Diff})
	writtenGone()
	prevGone()
	rootGone()
	if read != want || mined != want {
		t.Errorf("a head changed with an argument: %v and %v, not %v", read, mined, want)
	}
}

func TestBlocksShareNoText(t *testing.T) {
	chain := goodChain()
	var gone []func()
	loose := func(s *string) {
		text, drop := looseText(*s)
		*s = text
		gone = append(gone, drop)
	}
	for i := range chain {
		loose(&chain[i].Head.Prev)
		loose(&chain[i].Head.Root)
		for k := range chain[i].Items {
			loose(&chain[i].Items[k])
		}
	}
	item, itemGone := looseText("abcdefgh")
	var answers, wants [][]impl.Block
	for _, time := range []int{-1, 30} {
		answer, _ := impl.ChainMine(chain, time, []string{item})
		answers, wants = append(answers, answer), append(wants, deepBlocks(answer))
	}
	sides := impl.RootProof([]string{item, "a", item}, 1)
	marks := impl.ChainMarks(chain)
	wantMarks := modelMarks(goodChain())
	itemGone()
	for _, drop := range gone {
		drop()
	}
	for i := range answers {
		if !sameBlocks(answers[i], wants[i]) {
			t.Errorf("the blocks of an answer changed with an argument: %v, not %v", answers[i], wants[i])
		}
	}
	if !slices.Equal(sides, modelSides([]string{"abcdefgh", "a", "abcdefgh"}, 1)) || !slices.Equal(marks, wantMarks) {
		t.Errorf("an answer changed with an argument: %v, %q", sides, marks)
	}
}

func TestChainsKeepNothingBetweenCalls(t *testing.T) {
	list, other := goodChain(), (&dice{state: 92}).chain(nil, steps(9, 1, 7))
	first, _ := impl.ChainMine(list, 50, []string{"x"})
	impl.ChainMine(other, 90, nil)
	impl.ChainCheck(make([]impl.Head, 3))
	impl.ChainBetter(headsOf(other), headsOf(list))
	impl.HeadMine(impl.Head{})
	impl.RootProof(numbered(9), 8)
	second, _ := impl.ChainMine(list, 50, []string{"x"})
	if !sameBlocks(first, second) || impl.ChainCheck(headsOf(list)) != 0 {
		t.Error("an answer hangs on the calls ahead")
	}
}
