package tests

import (
	"math"
	"slices"
	"testing"

	"loop.example/cordillera/impl"
)

// paidChains is chains of each size with items that are there twice, in one block and in several, with full blocks, and with blocks of one item.
func paidChains() [][]impl.Block {
	d := &dice{state: 48}
	out := [][]impl.Block{nil, {}, goodChain(), d.chain(nil, steps(0, 1, impl.ChainMax))}
	kinds := [][]string{{"a"}, {"a", "a"}, nil, {"b", "a", "b"}, numbered(impl.ItemMax), slices.Repeat([]string{"a"}, impl.ItemMax), {"abcdefgh", "a", "00000000"}}
	for many := 1; many <= impl.ChainMax; many++ {
		var list []impl.Block
		for i, time := range d.times(many) {
			list, _ = modelChainMine(list, time, kinds[(i+many)%len(kinds)])
		}
		out = append(out, list, d.chain(nil, d.times(many)))
	}
	return out
}

// rangeRootOf is the root of the range of a chain's heads.
func rangeRootOf(list []impl.Block) string {
	return modelRangeRoot(modelRange(headsOf(list)))
}

// samePaidOf holds PaidOf against its model.
func samePaidOf(t *testing.T, list []impl.Block, at, item int) impl.Paid {
	t.Helper()
	got, want := impl.PaidOf(list, at, item), modelPaid(list, at, item)
	if !samePaid(got, want) {
		t.Fatalf("PaidOf of %d blocks at %d, item %d, is %v, not %v", len(list), at, item, got, want)
	}
	return got
}

// samePaidCheck holds PaidCheck against its model.
func samePaidCheck(t *testing.T, root string, item string, p impl.Paid) bool {
	t.Helper()
	got := impl.PaidCheck(root, item, p)
	if got != modelPaidCheck(root, item, p) {
		t.Fatalf("PaidCheck by %q of %q by %v is %t", root, item, p, got)
	}
	return got
}

// samePaidDeep holds PaidDeep against its model.
func samePaidDeep(t *testing.T, p impl.Paid) int {
	t.Helper()
	got, want := impl.PaidDeep(p), modelPaidDeep(p)
	if got != want {
		t.Fatalf("PaidDeep of %v is %d, not %d", p, got, want)
	}
	return got
}

// eachPaid calls with each item of a chain, and its proof.
func eachPaid(list []impl.Block, call func(at, item int, p impl.Paid)) {
	for at, b := range list {
		for item := range b.Items {
			call(at, item, modelPaid(list, at, item))
		}
	}
}

func TestP48KnownProof(t *testing.T) {
	list := goodChain()
	heads := headsOf(list)
	one := func(at int) impl.Peak { return impl.RangeOf(heads[at : at+1])[0] }
	two := func(at int) impl.Peak { return impl.RangeOf(heads[at : at+2])[0] }
	want := impl.Paid{
		At:    1,
		Head:  heads[1],
		Proof: impl.Proof{Peaks: impl.RangeOf(heads), Steps: []impl.Peak{one(0), two(2)}},
		Sides: []impl.Side{{Sum: impl.SumOf("item b"), Left: true}},
	}
	got := impl.PaidOf(list, 1, 1)
	if !samePaid(got, want) {
		t.Errorf("PaidOf is %v, not %v", got, want)
	}
	if !impl.PaidCheck("c77585883560eb7c", "c", got) || impl.PaidCheck("c77585883560eb7c", "b", got) || impl.PaidDeep(got) != 3 {
		t.Errorf("PaidCheck and PaidDeep of %v are wrong", got)
	}
	// The last head is a peak of its own, and its block has one item: nothing stands beside either way.
	last := impl.PaidOf(list, 4, 0)
	if len(last.Proof.Steps) != 0 || len(last.Sides) != 0 || !impl.PaidCheck("c77585883560eb7c", "d", last) || impl.PaidDeep(last) != 0 {
		t.Errorf("PaidOf of the last block is %v", last)
	}
}

func TestP48EachItemIsProved(t *testing.T) {
	for _, list := range paidChains() {
		root := impl.RangeRoot(impl.RangeOf(headsOf(list)))
		for at, b := range list {
			for i, item := range b.Items {
				p := samePaidOf(t, list, at, i)
				if !samePaidCheck(t, root, item, p) {
					t.Fatalf("PaidCheck of PaidOf of %d blocks at %d, item %d, is false", len(list), at, i)
				}
				if samePaidCheck(t, root, item+"0", p) || samePaidCheck(t, root, "q"+item, p) || samePaidCheck(t, root, "", p) {
					t.Fatalf("PaidCheck of PaidOf of %d blocks at %d is true of other items than %q", len(list), at, item)
				}
				if got := samePaidDeep(t, p); got != len(list)-1-at {
					t.Fatalf("PaidDeep of %d blocks at %d is %d", len(list), at, got)
				}
			}
		}
	}
}

func TestP48ProofWithoutSides(t *testing.T) {
	for _, items := range [][]string{{"a"}, {"abcdefgh"}, {"0"}} {
		list, _ := modelChainMine(nil, 0, items)
		p := samePaidOf(t, list, 0, 0)
		if len(p.Sides) != 0 || len(p.Proof.Steps) != 0 || !samePaidCheck(t, rangeRootOf(list), items[0], p) {
			t.Errorf("the proof of the one item %q is %v", items[0], p)
		}
		p.Sides = []impl.Side{}
		p.Proof.Steps = []impl.Peak{}
		if !samePaidCheck(t, rangeRootOf(list), items[0], p) {
			t.Errorf("PaidCheck of %q with empty lists is false", items[0])
		}
		if samePaidCheck(t, rangeRootOf(list), "b", p) {
			t.Errorf("PaidCheck of another item than %q is true", items[0])
		}
	}
	// The root of no items is none of an item.
	list, _ := modelChainMine(nil, 0, nil)
	p := impl.Paid{Head: list[0].Head, Proof: modelProof(headsOf(list), 0)}
	for _, item := range []string{"", "a", "item"} {
		if samePaidCheck(t, rangeRootOf(list), item, p) {
			t.Errorf("PaidCheck of %q in an empty block is true", item)
		}
	}
}

func TestP48ItemThatIsThereTwice(t *testing.T) {
	list, _ := modelChainMine(goodChain(), 40, []string{"a", "b", "a", "a"})
	root := rangeRootOf(list)
	var seen []impl.Paid
	for _, i := range []int{0, 2, 3} {
		p := samePaidOf(t, list, 5, i)
		if !samePaidCheck(t, root, "a", p) || samePaidCheck(t, root, "b", p) {
			t.Errorf("the proof of item %d is %v", i, p)
		}
		if slices.ContainsFunc(seen, func(other impl.Paid) bool { return samePaid(other, p) }) {
			t.Errorf("the proof of item %d is that of another one", i)
		}
		seen = append(seen, p)
	}
}

func TestP48NoProof(t *testing.T) {
	list := paidChains()[40]
	far := []int{-1, impl.ChainMax, impl.ChainMax + 1, math.MinInt, math.MaxInt}
	for _, at := range append(far, len(list)) {
		for item := range impl.ItemMax {
			if got := samePaidOf(t, list, at, item); !samePaid(got, impl.Paid{}) {
				t.Errorf("PaidOf at %d is %v", at, got)
			}
		}
	}
	for at, b := range list {
		for _, item := range append(far, len(b.Items)) {
			if got := samePaidOf(t, list, at, item); !samePaid(got, impl.Paid{}) {
				t.Errorf("PaidOf of item %d of %q is %v", item, b.Items, got)
			}
		}
	}
	for _, wrong := range append(wrongChains(), nil, []impl.Block{}) {
		for at := range 7 {
			for item := range 2 {
				if got := samePaidOf(t, wrong, at, item); !samePaid(got, impl.Paid{}) {
					t.Errorf("PaidOf of no chain is %v", got)
				}
			}
		}
	}
}

// An item that is none is refused even if the head was made of it.
func TestP48WrongItems(t *testing.T) {
	for _, item := range wrongItems() {
		for many := range 3 {
			sides := (&dice{state: 480}).sides(many)
			h := forced(nil, func(h *impl.Head) { h.Root = modelLeads(item, sides) })
			p := impl.Paid{Head: h, Proof: modelProof([]impl.Head{h}, 0), Sides: sides}
			if samePaidCheck(t, modelRangeRoot(p.Proof.Peaks), item, p) {
				t.Errorf("PaidCheck of %q is true", item)
			}
		}
	}
}

func TestP48ProofsOfManySides(t *testing.T) {
	d := &dice{state: 481}
	for many := range impl.SideMax + 3 {
		sides := d.sides(many)
		h := forced(nil, func(h *impl.Head) { h.Root = modelLeads("a", sides) })
		p := impl.Paid{Head: h, Proof: modelProof([]impl.Head{h}, 0), Sides: sides}
		if got := samePaidCheck(t, modelRangeRoot(p.Proof.Peaks), "a", p); got != (many <= impl.SideMax) {
			t.Errorf("PaidCheck with %d sides is %t", many, got)
		}
	}
}

func TestP48HowDeep(t *testing.T) {
	d := &dice{state: 482}
	for many := range impl.ChainMax + 1 {
		proof := impl.Proof{Peaks: d.peaks(many)}
		for at := range many {
			// Nothing but the place and the peaks tells how deep.
			for _, p := range []impl.Paid{{At: at, Proof: proof}, {At: at, Head: d.head(), Proof: impl.Proof{Peaks: proof.Peaks, Steps: make([]impl.Peak, 9)}, Sides: make([]impl.Side, 9)}} {
				if got := samePaidDeep(t, p); got != many-1-at {
					t.Errorf("PaidDeep at %d of %d heads is %d", at, many, got)
				}
			}
		}
		for _, at := range []int{-1, -2, many, many + 1, impl.ChainMax, math.MinInt, math.MaxInt, math.MinInt + many, -1 - many} {
			if got := samePaidDeep(t, impl.Paid{At: at, Proof: proof}); got != -1 {
				t.Errorf("PaidDeep at %d of %d heads is %d", at, many, got)
			}
		}
	}
	for _, list := range wrongRanges() {
		for _, at := range []int{-2, -1, 0, 1, 2, 19} {
			if got := samePaidDeep(t, impl.Paid{At: at, Proof: impl.Proof{Peaks: list}}); got != -1 {
				t.Errorf("PaidDeep at %d of %v is %d", at, list, got)
			}
		}
	}
	for _, p := range []impl.Paid{{}, {Proof: impl.Proof{Peaks: []impl.Peak{}}}} {
		if got := samePaidDeep(t, p); got != -1 {
			t.Errorf("PaidDeep of nothing is %d", got)
		}
	}
}

// turnedHeads is a head with each part turned, as it is then, and made again.
func turnedHeads(h impl.Head) []impl.Head {
	turned := slices.Repeat([]impl.Head{h}, 5)
	turned[0].Prev = otherSum(h.Prev, 3)
	turned[1].Root = otherSum(h.Root, 12)
	turned[2].Root = modelSum(h.Root)
	turned[3].Time++
	turned[4].Diff++
	out := []impl.Head{{}, h}
	out[1].Nonce++
	for _, other := range turned {
		made, _ := modelHeadMine(other)
		out = append(out, other, made)
	}
	return out
}

// turnedPaids is a proof with whatever of it is another one.
func turnedPaids(p impl.Paid) []impl.Paid {
	var out []impl.Paid
	with := func(turn func(p *impl.Paid)) {
		other := p
		turn(&other)
		out = append(out, other)
	}
	for _, at := range []int{p.At + 1, p.At - 1, -1, p.At + 16, p.At + 32, math.MaxInt, math.MinInt} {
		with(func(p *impl.Paid) { p.At = at })
	}
	for _, h := range turnedHeads(p.Head) {
		with(func(p *impl.Paid) { p.Head = h })
	}
	for _, proof := range turnedProofs(p.Proof) {
		with(func(p *impl.Paid) { p.Proof = proof })
	}
	for i, side := range p.Sides {
		for _, other := range []impl.Side{{Sum: side.Sum, Left: !side.Left}, {Sum: otherSum(side.Sum, 5), Left: side.Left}, {Left: side.Left}, {Sum: side.Sum + "0", Left: side.Left}} {
			with(func(p *impl.Paid) { p.Sides = slices.Replace(slices.Clone(p.Sides), i, i+1, other) })
		}
		with(func(p *impl.Paid) { p.Sides = slices.Delete(slices.Clone(p.Sides), i, i+1) })
		with(func(p *impl.Paid) { p.Sides = slices.Insert(slices.Clone(p.Sides), i, side) })
	}
	with(func(p *impl.Paid) { p.Sides = append(slices.Clone(p.Sides), impl.Side{Sum: noughts}) })
	return out
}

// sameOnBothSides says whether an item's own sum stands beside it: on which side does not matter then.
func sameOnBothSides(p, turned impl.Paid, item string) bool {
	return p.At == turned.At && p.Head == turned.Head && sameProof(p.Proof, turned.Proof) && modelLeads(item, p.Sides) == modelLeads(item, turned.Sides)
}

func TestP49ProofFallsWithWhateverIsTurned(t *testing.T) {
	for _, list := range paidChains() {
		root := rangeRootOf(list)
		eachPaid(list, func(at, i int, p impl.Paid) {
			item := list[at].Items[i]
			if i > 0 && len(list) > 9 {
				return
			}
			for _, other := range turnedPaids(p) {
				if samePaidCheck(t, root, item, other) && !sameOnBothSides(p, other, item) {
					t.Fatalf("PaidCheck of %d blocks at %d, item %d, is true of %v instead of %v", len(list), at, i, other, p)
				}
			}
			more := p
			more.At++
			another := p
			another.Head.Root = modelSum(p.Head.Root)
			if impl.PaidCheck(otherSum(root, at%16), item, p) || impl.PaidCheck(root, item, more) || impl.PaidCheck(root, item, another) {
				t.Fatalf("PaidCheck of %d blocks at %d stands", len(list), at)
			}
		})
	}
}

func TestP49WrongRoots(t *testing.T) {
	for _, list := range [][]impl.Block{goodChain(), goodChain()[:1]} {
		root := rangeRootOf(list)
		p := modelPaid(list, 0, 1)
		wrong := append(wrongSums(), noughts, otherSum(root, 0), otherSum(root, 15), root+"0", root[:15], modelSum(root), rangeRootOf(list[1:]), list[0].Head.Root, p.Proof.Peaks[0].Sum)
		for _, other := range wrong {
			if samePaidCheck(t, other, "b", p) {
				t.Errorf("PaidCheck by %q instead of %q is true", other, root)
			}
			for _, none := range []impl.Paid{{}, {Head: p.Head}, {Head: p.Head, Sides: p.Sides}} {
				if samePaidCheck(t, other, "b", none) {
					t.Errorf("PaidCheck of %v by %q is true", none, other)
				}
			}
		}
		for _, none := range []impl.Paid{{}, {Head: p.Head}, {Head: p.Head, Proof: p.Proof}, {Head: p.Head, Sides: p.Sides}, {Proof: p.Proof, Sides: p.Sides}} {
			if samePaidCheck(t, root, "b", none) || samePaidCheck(t, impl.RangeRoot(nil), "b", none) {
				t.Errorf("PaidCheck of %v is true", none)
			}
		}
	}
}

// A head that is ok, but not hard enough, is refused even in a range that was made of it.
func TestP49HeadThatWasNotMade(t *testing.T) {
	d := &dice{state: 49}
	made, refused := 0, 0
	for range 300 {
		h := d.head()
		h.Root = modelSum("item a")
		p := impl.Paid{Head: h, Proof: modelProof([]impl.Head{h}, 0)}
		got := samePaidCheck(t, modelRangeRoot(p.Proof.Peaks), "a", p)
		if got != impl.HeadMeets(h) {
			t.Fatalf("PaidCheck of the head %v is %t", h, got)
		}
		if got {
			made++
		} else {
			refused++
		}
	}
	if made < 20 || refused < 20 {
		t.Errorf("%d heads were made, %d not", made, refused)
	}
}

// A proof of one item is none of another item of the same block, nor of one of another block.
func TestP49ProofOfAnotherItem(t *testing.T) {
	list := paidChains()[3]
	root := rangeRootOf(list)
	eachPaid(list, func(at, i int, p impl.Paid) {
		for place, b := range list {
			for k, item := range b.Items {
				got := samePaidCheck(t, root, item, p)
				if got != (item == list[at].Items[i]) {
					t.Fatalf("PaidCheck of item %d at %d by the proof of item %d at %d is %t", k, place, i, at, got)
				}
			}
		}
	})
}

// samePaidFind holds PaidFind against its model.
func samePaidFind(t *testing.T, list []impl.Block, item string) []impl.Hit {
	t.Helper()
	got, want := impl.PaidFind(list, item), modelPaidFind(list, item)
	if !slices.Equal(got, want) {
		t.Fatalf("PaidFind of %q in %d blocks is %v, not %v", item, len(list), got, want)
	}
	return got
}

func TestP50KnownPlaces(t *testing.T) {
	list, _ := modelChainMine(goodChain(), 40, []string{"a", "b", "a", "a0"})
	want := map[string][]impl.Hit{
		"a":  {{At: 0, Item: "a"}, {At: 3, Item: "a"}, {At: 5, Item: "a"}, {At: 5, Item: "a"}},
		"b":  {{At: 0, Item: "b"}, {At: 1, Item: "b"}, {At: 5, Item: "b"}},
		"d":  {{At: 4, Item: "d"}},
		"a0": {{At: 5, Item: "a0"}},
		"0":  nil,
		"":   nil,
	}
	for item, hits := range want {
		if got := impl.PaidFind(list, item); !slices.Equal(got, hits) {
			t.Errorf("PaidFind of %q is %v, not %v", item, got, hits)
		}
	}
}

func TestP50AllPlacesAreFoundAndProved(t *testing.T) {
	for _, list := range paidChains() {
		root := rangeRootOf(list)
		seen := map[string]int{}
		for _, b := range list {
			for _, item := range b.Items {
				seen[item]++
			}
		}
		for item, many := range seen {
			hits := samePaidFind(t, list, item)
			if len(hits) != many {
				t.Fatalf("PaidFind of %q finds %d places, not %d", item, len(hits), many)
			}
			for _, hit := range hits {
				for i, other := range list[hit.At].Items {
					if other == item && !samePaidCheck(t, root, hit.Item, impl.PaidOf(list, hit.At, i)) {
						t.Fatalf("PaidCheck of PaidOf of %v, item %d, is false", hit, i)
					}
				}
			}
		}
		for _, item := range []string{"", "q", "A", "a0", "zzzzzzzz"} {
			if hits := samePaidFind(t, list, item); len(hits) != seen[item] {
				t.Fatalf("PaidFind of %q finds %v", item, hits)
			}
		}
	}
}

func TestP50NothingIsFound(t *testing.T) {
	for _, list := range wrongChains() {
		for _, item := range []string{"", "a", "A", "q", "i0"} {
			if hits := samePaidFind(t, list, item); len(hits) != 0 {
				t.Errorf("PaidFind of %q in no chain is %v", item, hits)
			}
		}
		for _, b := range list {
			for _, item := range b.Items {
				if hits := samePaidFind(t, list, item); len(hits) != 0 {
					t.Errorf("PaidFind of %q in no chain is %v", item, hits)
				}
			}
		}
	}
	for _, item := range wrongItems() {
		if hits := samePaidFind(t, paidChains()[3], item); len(hits) != 0 {
			t.Errorf("PaidFind of %q is %v", item, hits)
		}
	}
}

func TestP53OneHeadMoreIsOneDeeper(t *testing.T) {
	d := &dice{state: 53}
	for many := 1; many < impl.ChainMax; many++ {
		for at := range many {
			p := d.paid(at, many, 0, 0)
			all, _ := impl.RangeMany(p.Proof.Peaks)
			deep := samePaidDeep(t, p)
			if deep != all-1-p.At {
				t.Fatalf("PaidDeep at %d of %d heads is %d", at, all, deep)
			}
			peaks, ok := impl.RangeAdd(p.Proof.Peaks, d.head())
			p.Proof.Peaks = peaks
			if got := samePaidDeep(t, p); !ok || got != deep+1 {
				t.Fatalf("PaidDeep at %d of %d heads and one more is %d, not %d", at, many, got, deep+1)
			}
		}
	}
}

func TestP53BlockByBlock(t *testing.T) {
	list, _ := modelChainMine(nil, 0, []string{"a"})
	for many := 1; many <= impl.ChainMax; many++ {
		if got := samePaidDeep(t, samePaidOf(t, list, 0, 0)); got != many-1 {
			t.Errorf("PaidDeep of the first of %d blocks is %d", many, got)
		}
		list, _ = modelChainMine(list, many*7, nil)
	}
}
