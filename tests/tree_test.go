package tests

import (
	"slices"
	"testing"

	"loop.example/cordillera/impl"
)

// sumAt is the HeadSum of a block.
func sumAt(b impl.Block) string {
	return modelHeadSum(b.Head)
}

// sameTreeAdd holds TreeAdd against its model, and against promise 59.
func sameTreeAdd(t *testing.T, list []impl.Block, b impl.Block) ([]impl.Block, bool) {
	t.Helper()
	got, ok := impl.TreeAdd(impl.Tree{Blocks: list}, b)
	want, wantOk := modelTreeAdd(list, b)
	if ok != wantOk || !sameBlocks(got.Blocks, want) {
		t.Fatalf("TreeAdd of %v to %d blocks is %d blocks and %t, not %d and %t", b, len(list), len(got.Blocks), ok, len(want), wantOk)
	}
	if !ok {
		return got.Blocks, false
	}
	chain := impl.TreeChain(got, impl.HeadSum(b.Head))
	if !impl.TreeOk(got) || !impl.ChainOk(chain) || len(chain) == 0 || !sameBlocks(chain[len(chain)-1:], []impl.Block{b}) {
		t.Fatalf("behind TreeAdd of %v to %d blocks TreeChain is %v", b, len(list), chain)
	}
	if again, twice := impl.TreeAdd(got, b); twice || !sameBlocks(again.Blocks, got.Blocks) {
		t.Fatalf("TreeAdd of %v is true again", b)
	}
	return got.Blocks, true
}

// checkTree holds all that a tree tells against the models, and against promises 60, 61 and 63.
func checkTree(t *testing.T, list []impl.Block) {
	t.Helper()
	tree := impl.Tree{Blocks: list}
	if !impl.TreeOk(tree) {
		t.Fatalf("TreeOk of %d blocks is false", len(list))
	}
	for _, b := range list {
		chain := impl.TreeChain(tree, sumAt(b))
		if !sameBlocks(chain, modelLead(list, sumAt(b))) || !impl.ChainOk(chain) {
			t.Fatalf("TreeChain of %v is %v", b, chain)
		}
		last := len(chain) - 1
		if impl.HeadSum(chain[last].Head) != sumAt(b) || !sameBlocks(impl.TreeChain(tree, b.Head.Prev), chain[:last]) {
			t.Fatalf("TreeChain of %v ends with %v", b, chain[last])
		}
	}
	checkBest(t, tree)
	checkTips(t, tree)
}

func checkBest(t *testing.T, tree impl.Tree) {
	t.Helper()
	best := impl.TreeBest(tree)
	if !sameBlocks(best, modelTreeBest(tree.Blocks)) || (len(best) == 0) != (len(tree.Blocks) == 0) {
		t.Fatalf("TreeBest of %d blocks is %v", len(tree.Blocks), best)
	}
	leads := len(tree.Blocks) == 0
	for _, tip := range impl.TreeTips(tree) {
		leads = leads || sameBlocks(best, impl.TreeChain(tree, tip))
	}
	if !leads {
		t.Fatalf("TreeBest of %d blocks leads to none of TreeTips", len(tree.Blocks))
	}
	for _, b := range tree.Blocks {
		if impl.ChainBetter(headsOf(impl.TreeChain(tree, sumAt(b))), headsOf(best)) {
			t.Fatalf("the chain of %v is better than TreeBest", b)
		}
	}
}

func checkTips(t *testing.T, tree impl.Tree) {
	t.Helper()
	tips := impl.TreeTips(tree)
	if !slices.Equal(tips, modelTreeTips(tree.Blocks)) || (len(tips) == 0) != (len(tree.Blocks) == 0) {
		t.Fatalf("TreeTips of %d blocks is %q", len(tree.Blocks), tips)
	}
	seen := map[string]int{}
	for i, tip := range tips {
		if i > 0 && tips[i-1] >= tip {
			t.Fatalf("TreeTips is not ascending: %q", tips)
		}
		for _, b := range impl.TreeChain(tree, tip) {
			seen[sumAt(b)]++
			if b.Head.Prev == tip {
				t.Fatalf("the tip %q is ahead of %v", tip, b)
			}
		}
	}
	for _, b := range tree.Blocks {
		if seen[sumAt(b)] == 0 {
			t.Fatalf("no tip has %v ahead", b)
		}
	}
	if len(seen) != len(tree.Blocks) {
		t.Fatalf("the tips have %d blocks ahead, not %d", len(seen), len(tree.Blocks))
	}
}

// branch is so many blocks behind a chain, soon one behind the other.
func (d *dice) branch(ahead []impl.Block, by, many int) []impl.Block {
	_, last := modelBehind(headsOf(ahead))
	return d.chain(slices.Clone(ahead), steps(last+1+d.below(9), by, many))[len(ahead):]
}

// goodTrees is trees of each size: any ones, one chain, blocks that are all first, and one block with all others behind it.
func goodTrees() [][]impl.Block {
	d := &dice{state: 60}
	out := [][]impl.Block{nil, {}, goodChain(), d.chain(nil, steps(0, 1, impl.ChainMax))}
	for many := 1; many <= impl.TreeMax; many++ {
		out = append(out, d.tree(many))
	}
	var firsts, bush []impl.Block
	bush = d.branch(nil, 5, 1)
	for len(bush) < impl.TreeMax {
		firsts = append(firsts, d.unlike(firsts, nil))
		bush = append(bush, d.unlike(bush, bush[:1]))
	}
	stem := d.chain(nil, steps(0, 7, impl.ChainMax))
	return append(out, firsts, bush, append(slices.Clone(stem), d.branch(stem[:9], 3, 4)...), append(slices.Clone(stem[:12]), d.branch(stem[:4], 1, 12)...))
}

// unlike is a block behind a chain that is not among some.
func (d *dice) unlike(list []impl.Block, ahead []impl.Block) impl.Block {
	for {
		b, ok := d.blockBehind(ahead)
		if ok && !slices.Contains(sumsOf(list), sumAt(b)) {
			return b
		}
	}
}

func TestP59KnownTree(t *testing.T) {
	stem := goodChain()
	d := &dice{state: 59}
	left, right := d.branch(stem[:2], 3, 2), d.branch(stem[:2], 5, 1)
	var list []impl.Block
	for _, b := range []impl.Block{stem[0], stem[1], left[0], stem[2], right[0], left[1], stem[3], stem[4]} {
		more, ok := sameTreeAdd(t, list, b)
		if !ok || len(more) != len(list)+1 || !sameBlocks(more[len(list):], []impl.Block{b}) {
			t.Fatalf("TreeAdd of %v is %v and %t", b, more, ok)
		}
		list = more
	}
	tips := []string{sumAt(left[1]), sumAt(right[0]), "752d5cacce6ebaa6"}
	slices.Sort(tips)
	tree := impl.Tree{Blocks: list}
	if got := impl.TreeTips(tree); !slices.Equal(got, tips) {
		t.Errorf("TreeTips is %q, not %q", got, tips)
	}
	if got := impl.TreeBest(tree); !sameBlocks(got, stem) {
		t.Errorf("TreeBest is %v, not %v", got, stem)
	}
	if got := impl.TreeChain(tree, sumAt(left[1])); !sameBlocks(got, slices.Concat(stem[:2], left)) {
		t.Errorf("TreeChain is %v", got)
	}
	if got := impl.TreeChain(tree, sumAt(stem[3])); !sameBlocks(got, stem[:4]) {
		t.Errorf("TreeChain is %v", got)
	}
	checkTree(t, list)
}

func TestP59WhatIsAddedIsThereOnce(t *testing.T) {
	for _, all := range goodTrees() {
		var list []impl.Block
		for i, b := range all {
			more, ok := sameTreeAdd(t, list, b)
			if !ok || !sameBlocks(more, all[:i+1]) {
				t.Fatalf("TreeAdd of block %d of %d is %d blocks and %t", i, len(all), len(more), ok)
			}
			list = more
		}
		for _, b := range all {
			if more, ok := sameTreeAdd(t, all, b); ok || !sameBlocks(more, all) {
				t.Fatalf("a block that is there is added: %v", b)
			}
		}
	}
}

// A block that came ahead of the one it stands behind cannot be added; behind that one it can.
func TestP59BlockThatCameAhead(t *testing.T) {
	d := &dice{state: 590}
	for _, all := range goodTrees() {
		for at := 1; at < len(all); at += 1 + d.below(4) {
			b := all[at]
			list := slices.Clone(all[:at])
			place := slices.IndexFunc(list, func(other impl.Block) bool { return sumAt(other) == b.Head.Prev })
			if place < 0 {
				continue
			}
			for many := range place + 1 {
				if more, ok := sameTreeAdd(t, list[:many], b); ok || !sameBlocks(more, list[:many]) {
					t.Fatalf("a block is added ahead of the one it stands behind: %v", b)
				}
			}
			if _, ok := sameTreeAdd(t, list[:place+1], b); !ok {
				t.Fatalf("a block is not added behind the one it stands behind: %v", b)
			}
			early := slices.Insert(slices.Clone(list), place, b)
			checkWrongTree(t, early, b)
		}
	}
	stem := goodChain()
	for at := 1; at < len(stem); at++ {
		for _, none := range [][]impl.Block{nil, {}, stem[:at-1], stem[at+1:]} {
			if more, ok := impl.TreeAdd(impl.Tree{Blocks: none}, stem[at]); ok || len(more.Blocks) == len(none)+1 {
				t.Errorf("TreeAdd of block %d to %d others is %v", at, len(none), more)
			}
		}
	}
}

func TestP59AsManyBlocksAsCanBe(t *testing.T) {
	d := &dice{state: 591}
	for _, list := range goodTrees() {
		if len(list) < impl.TreeMax-1 {
			continue
		}
		if len(list) == impl.TreeMax-1 {
			more, ok := sameTreeAdd(t, list, d.unlike(list, nil))
			if !ok || len(more) != impl.TreeMax {
				t.Fatalf("to %d blocks none is added", len(list))
			}
			list = more
		}
		for _, ahead := range [][]impl.Block{nil, list[:1]} {
			one := d.unlike(list, ahead)
			if more, ok := sameTreeAdd(t, list, one); ok || !sameBlocks(more, list) {
				t.Fatalf("to %d blocks one more is added", len(list))
			}
			checkWrongTree(t, append(slices.Clone(list), one), one)
		}
	}
}

// A chain in a tree has at most ChainMax blocks, be there room in the tree or not.
func TestP59BehindChainMax(t *testing.T) {
	d := &dice{state: 592}
	stem := d.chain(nil, steps(0, 7, impl.ChainMax))
	behind := impl.Block{Head: forced(headsOf(stem), func(*impl.Head) {})}
	if more, ok := sameTreeAdd(t, stem, behind); ok || !sameBlocks(more, stem) {
		t.Errorf("behind %d blocks one more is added", len(stem))
	}
	checkWrongTree(t, append(slices.Clone(stem), behind), behind)
	for at := range impl.ChainMax {
		if _, ok := sameTreeAdd(t, stem, d.unlike(stem, stem[:at])); !ok {
			t.Errorf("a block beside the one at %d is not added", at)
		}
	}
}

// wrongBehind is blocks that cannot stand behind a chain, each by one part.
func wrongBehind(ahead []impl.Block) []impl.Block {
	heads := headsOf(ahead)
	items := []string{"a", "b"}
	turned := func(turn func(h *impl.Head)) impl.Block {
		return impl.Block{Items: items, Head: forced(heads, func(h *impl.Head) {
			h.Root = modelRoot(items)
			turn(h)
		})}
	}
	good := turned(func(*impl.Head) {})
	out := []impl.Block{
		{}, {Head: good.Head}, {Head: good.Head, Items: []string{"b", "a"}}, {Items: items}, {Head: good.Head, Items: []string{"a", "b", "b"}},
		turned(func(h *impl.Head) { h.Diff++ }),
		turned(func(h *impl.Head) { h.Prev = otherSum(h.Prev, 9) }),
		turned(func(h *impl.Head) { h.Prev = h.Root }),
	}
	for nonce := range impl.NonceMax + 2 {
		h := good.Head
		h.Nonce = nonce
		if !modelMeets(h) {
			out = append(out, impl.Block{Head: h, Items: items})
			break
		}
	}
	for _, wrong := range [][]string{numbered(impl.ItemMax + 1), {"A"}, {""}, {"abcdefghi"}} {
		root := modelRoot(wrong)
		if root == "" {
			root = modelSum("item " + wrong[0])
		}
		out = append(out, impl.Block{Items: wrong, Head: forced(heads, func(h *impl.Head) { h.Root = root })})
	}
	if len(ahead) == 0 {
		return out
	}
	out = append(out, turned(func(h *impl.Head) { h.Time-- }), turned(func(h *impl.Head) { h.Time = 0 }))
	if len(ahead) > 4 {
		out = append(out, turned(func(h *impl.Head) { h.Diff-- }))
	}
	return out
}

func TestP59WhatCannotBeAdded(t *testing.T) {
	d := &dice{state: 593}
	stem := d.chain(nil, steps(3, 5, 6))
	list := append(slices.Clone(stem), d.branch(stem[:3], 4, 3)...)
	for _, b := range list {
		chain := modelLead(list, sumAt(b))
		for _, ahead := range [][]impl.Block{chain, nil} {
			for _, wrong := range wrongBehind(ahead) {
				if more, ok := sameTreeAdd(t, list, wrong); ok || !sameBlocks(more, list) {
					t.Fatalf("a wrong block is added: %v", wrong)
				}
				checkWrongTree(t, append(slices.Clone(list), wrong), wrong)
				checkWrongTree(t, slices.Insert(slices.Clone(list), d.below(len(list)), wrong), wrong)
			}
		}
	}
	for _, wrong := range wrongHeads() {
		b := impl.Block{Head: wrong}
		if more, ok := sameTreeAdd(t, list, b); ok || !sameBlocks(more, list) {
			t.Fatalf("a block with the head %v is added", wrong)
		}
	}
}

// checkWrongTree says that a tree that is not ok has the one answer of each function.
func checkWrongTree(t *testing.T, list []impl.Block, b impl.Block) {
	t.Helper()
	tree := impl.Tree{Blocks: list}
	if impl.TreeOk(tree) || modelTreeOk(list) {
		t.Fatalf("TreeOk of %d blocks, which are none, is true", len(list))
	}
	for _, one := range []impl.Block{b, list[0], firstBlock()} {
		if more, ok := impl.TreeAdd(tree, one); ok || len(more.Blocks) != 0 {
			t.Fatalf("TreeAdd to a wrong tree is %v and %t", more, ok)
		}
		if got := impl.TreeChain(tree, impl.HeadSum(one.Head)); len(got) != 0 {
			t.Fatalf("TreeChain of a wrong tree is %v", got)
		}
	}
	if best, tips := impl.TreeBest(tree), impl.TreeTips(tree); len(best) != 0 || len(tips) != 0 {
		t.Fatalf("TreeBest and TreeTips of a wrong tree are %v and %q", best, tips)
	}
}

// firstBlock is a block that can be first.
func firstBlock() impl.Block {
	return impl.Block{Head: forced(nil, func(h *impl.Head) { h.Time = 7 })}
}

func TestP60WhatLeadsToABlock(t *testing.T) {
	for _, list := range goodTrees() {
		checkTree(t, list)
		for many := range len(list) {
			if !impl.TreeOk(impl.Tree{Blocks: list[:many]}) {
				t.Fatalf("TreeOk of the first %d of %d blocks is false", many, len(list))
			}
		}
	}
}

func TestP60NothingLeadsThere(t *testing.T) {
	d := &dice{state: 600}
	for _, list := range goodTrees() {
		sums := append(wrongSums(), noughts, modelSum("x"), modelSum(""))
		for _, b := range list {
			sums = append(sums, otherSum(sumAt(b), d.below(16)), sumAt(b)+"0", sumAt(b)[:15], b.Head.Root)
		}
		sums = append(sums, sumAt(d.unlike(list, nil)))
		for _, sum := range sums {
			if got := impl.TreeChain(impl.Tree{Blocks: list}, sum); len(got) != 0 {
				t.Fatalf("TreeChain of %q is %v", sum, got)
			}
		}
	}
}

func TestP60WrongTrees(t *testing.T) {
	d := &dice{state: 601}
	for _, list := range wrongChains() {
		// None of these blocks stands beside another one, so that they are no tree either.
		checkWrongTree(t, list, goodChain()[0])
	}
	for _, list := range goodTrees() {
		if len(list) < 2 || len(list) > 20 {
			continue
		}
		at := d.below(len(list))
		checkWrongTree(t, append(slices.Clone(list), list[at]), list[at])
		checkWrongTree(t, slices.Insert(slices.Clone(list), at, list[at]), list[at])
		if list[len(list)-1].Head.Prev != noughts {
			turned := slices.Clone(list)
			slices.Reverse(turned)
			checkWrongTree(t, turned, list[at])
		}
	}
	checkWrongTree(t, make([]impl.Block, 1), impl.Block{})
	checkWrongTree(t, make([]impl.Block, 1000), impl.Block{})
	checkWrongTree(t, slices.Repeat(goodChain(), 5), goodChain()[0])
}

// More work is better, not more blocks.
func TestP61FewerBlocksWithMoreWork(t *testing.T) {
	d := &dice{state: 61}
	hard, long := d.chain(nil, steps(0, 1, 9)), d.chain(nil, steps(0, 30, 14))
	for _, list := range [][]impl.Block{slices.Concat(hard, long), slices.Concat(long, hard)} {
		if got := impl.TreeBest(impl.Tree{Blocks: list}); !sameBlocks(got, hard) {
			t.Errorf("TreeBest has %d blocks, with the work %d", len(got), impl.ChainWork(headsOf(got)))
		}
		checkTree(t, list)
	}
	list := slices.Concat(long, hard[:8])
	if got := impl.TreeBest(impl.Tree{Blocks: list}); !sameBlocks(got, long) {
		t.Errorf("TreeBest has %d blocks, with the work %d", len(got), impl.ChainWork(headsOf(got)))
	}
}

// Of many chains of the same work the one with the lowest last sum is the best.
func TestP61TheSameWork(t *testing.T) {
	d := &dice{state: 610}
	places := map[int]int{}
	for range 30 {
		stem := d.chain(nil, steps(0, 9, d.below(7)))
		list := slices.Clone(stem)
		for range 6 {
			list = append(list, d.unlike(list, stem))
		}
		sums := sumsOf(list[len(stem):])
		best := slices.Index(sums, slices.Min(sums))
		places[best]++
		if got := impl.TreeBest(impl.Tree{Blocks: list}); !sameBlocks(got, append(slices.Clone(stem), list[len(stem)+best])) {
			t.Fatalf("TreeBest of %q is %v", sums, got)
		}
		checkTree(t, list)
	}
	if len(places) < 5 {
		t.Errorf("the best stand at %v alone", places)
	}
}

func TestP61EmptyTree(t *testing.T) {
	for _, none := range []impl.Tree{{}, {Blocks: []impl.Block{}}} {
		if !impl.TreeOk(none) || len(impl.TreeBest(none)) != 0 || len(impl.TreeTips(none)) != 0 || len(impl.TreeChain(none, noughts)) != 0 || len(impl.TreeChain(none, "")) != 0 {
			t.Error("the empty tree has something")
		}
		if more, ok := impl.TreeAdd(none, impl.Block{}); ok || len(more.Blocks) != 0 {
			t.Errorf("TreeAdd of nothing is %v", more)
		}
		if more, ok := impl.TreeAdd(none, goodChain()[0]); !ok || !sameBlocks(more.Blocks, goodChain()[:1]) {
			t.Errorf("TreeAdd to the empty tree is %v and %t", more, ok)
		}
	}
}

// grownIn adds blocks in an order, again and again those that could not be added yet.
func grownIn(t *testing.T, blocks []impl.Block) impl.Tree {
	t.Helper()
	var tree impl.Tree
	for len(blocks) > 0 {
		var left []impl.Block
		for _, b := range blocks {
			more, ok := impl.TreeAdd(tree, b)
			if !ok {
				left = append(left, b)
			}
			tree = more
		}
		if len(left) == len(blocks) {
			t.Fatalf("%d blocks cannot be added", len(left))
		}
		blocks = left
	}
	return tree
}

func TestP62WhenBlocksCameDoesNotMatter(t *testing.T) {
	d := &dice{state: 62}
	orders := 0
	for _, list := range goodTrees() {
		tree := impl.Tree{Blocks: list}
		best, tips := impl.TreeBest(tree), impl.TreeTips(tree)
		for range 3 {
			other := grownIn(t, order(d, list))
			if !sameBlocks(other.Blocks, list) {
				orders++
			}
			if !sameBlocks(impl.TreeBest(other), best) || !slices.Equal(impl.TreeTips(other), tips) {
				t.Fatalf("in another order TreeBest and TreeTips of %d blocks are other ones", len(list))
			}
			for _, b := range list {
				if !sameBlocks(impl.TreeChain(other, sumAt(b)), impl.TreeChain(tree, sumAt(b))) {
					t.Fatalf("in another order TreeChain of %v is another one", b)
				}
			}
			checkTree(t, other.Blocks)
		}
	}
	if orders < 50 {
		t.Errorf("only %d orders are other ones", orders)
	}
}

func TestP63EachBlockLeadsToAnEnd(t *testing.T) {
	d := &dice{state: 63}
	many := map[int]int{}
	for range 20 {
		list := d.tree(1 + d.below(12))
		for i := range list {
			checkTips(t, impl.Tree{Blocks: list[:i+1]})
			many[len(impl.TreeTips(impl.Tree{Blocks: list[:i+1]}))]++
		}
	}
	if len(many) < 4 {
		t.Errorf("there are as many tips as %v alone", many)
	}
	for _, list := range goodTrees() {
		checkTips(t, impl.Tree{Blocks: list})
	}
}

// A tip may be low or high: all orders of two sums are met.
func TestP63TipsAreAscending(t *testing.T) {
	d := &dice{state: 630}
	turned := 0
	for range 20 {
		var list []impl.Block
		for range impl.TreeMax {
			list = append(list, d.unlike(list, nil))
		}
		tips := impl.TreeTips(impl.Tree{Blocks: list})
		if !slices.IsSorted(tips) || len(tips) != impl.TreeMax {
			t.Fatalf("TreeTips is %q", tips)
		}
		if !slices.Equal(tips, sumsOf(list)) {
			turned++
		}
	}
	if turned == 0 {
		t.Error("blocks came in their order alone")
	}
}
