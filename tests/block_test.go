package tests

import (
	"math"
	"slices"
	"strconv"
	"strings"
	"testing"

	"loop.example/cordillera/impl"
)

// itemLists is lists of each size that is ok, with items that are the same among them.
func itemLists() [][]string {
	d := &dice{state: 12}
	out := [][]string{nil, {}, goodItems(), slices.Repeat([]string{"a"}, impl.ListMax), {"a", "a"}, {"a", "a", "a"}, {"a", "b", "a", "b", "a"}}
	for many := range impl.ListMax + 1 {
		out = append(out, numbered(many), d.items(many))
	}
	return out
}

// otherSum is a sum with one figure that is another one.
func otherSum(s string, at int) string {
	figure := "1"
	if s[at:at+1] == "1" {
		figure = "e"
	}
	return s[:at] + figure + s[at+1:]
}

func TestP12KnownRoots(t *testing.T) {
	item := func(s string) string { return impl.SumOf("item " + s) }
	both := func(a, b string) string { return impl.SumOf("both " + a + " " + b) }
	a, b, c, d, e := item("a"), item("b"), item("c"), item("d"), item("e")
	roots := []string{impl.SumOf(""), a, both(a, b), both(both(a, b), c), both(both(a, b), both(c, d)), both(both(both(a, b), both(c, d)), e)}
	for many, want := range roots {
		if got := impl.RootOf([]string{"a", "b", "c", "d", "e"}[:many]); got != want {
			t.Errorf("RootOf of %d items is %q, not %q", many, got, want)
		}
	}
	if got := impl.RootOf(nil); got != "e3b0c44298fc1c14" {
		t.Errorf("RootOf of nil is %q", got)
	}
	six := []string{"a", "b", "c", "d", "e", "a"}
	if got := impl.RootOf(six); got != both(both(both(a, b), both(c, d)), both(e, a)) {
		t.Errorf("RootOf of six items is %q", got)
	}
	seven := append(six, "b")
	if got := impl.RootOf(seven); got != both(both(both(a, b), both(c, d)), both(both(e, a), b)) {
		t.Errorf("RootOf of seven items is %q", got)
	}
}

func TestP12KnownProofs(t *testing.T) {
	item := func(s string) string { return impl.SumOf("item " + s) }
	both := func(a, b string) string { return impl.SumOf("both " + a + " " + b) }
	items := []string{"a", "b", "c", "d", "e"}
	ab, cd := both(item("a"), item("b")), both(item("c"), item("d"))
	want := [][]impl.Side{
		{{Sum: item("b")}, {Sum: cd}, {Sum: item("e")}},
		{{Sum: item("a"), Left: true}, {Sum: cd}, {Sum: item("e")}},
		{{Sum: item("d")}, {Sum: ab, Left: true}, {Sum: item("e")}},
		{{Sum: item("c"), Left: true}, {Sum: ab, Left: true}, {Sum: item("e")}},
		{{Sum: both(ab, cd), Left: true}},
	}
	for at := range items {
		if got := impl.RootProof(items, at); !slices.Equal(got, want[at]) {
			t.Errorf("RootProof of %q at %d is %v, not %v", items, at, got, want[at])
		}
	}
	if got := impl.RootProof([]string{"a"}, 0); len(got) != 0 {
		t.Errorf("RootProof of one item is %v", got)
	}
}

func TestP12EachItemIsProved(t *testing.T) {
	for _, items := range itemLists() {
		root := impl.RootOf(items)
		if root != modelRoot(items) || !modelIsSum(root) {
			t.Fatalf("RootOf of %q is %q, not %q", items, root, modelRoot(items))
		}
		for at, item := range items {
			sides := impl.RootProof(items, at)
			if !slices.Equal(sides, modelSides(items, at)) {
				t.Fatalf("RootProof of %q at %d is %v, not %v", items, at, sides, modelSides(items, at))
			}
			if !impl.RootCheck(root, item, sides) {
				t.Fatalf("RootCheck of RootProof of %q at %d is false", items, at)
			}
			if impl.RootCheck(root, item+"0", sides) || impl.RootCheck(impl.SumOf(root), item, sides) || impl.RootCheck("", item, sides) {
				t.Fatalf("RootCheck of RootProof of %q at %d is true of something else", items, at)
			}
		}
	}
}

func TestP12WrongItemsHaveNoRoot(t *testing.T) {
	lists := [][]string{numbered(impl.ListMax + 1), slices.Repeat([]string{"a"}, impl.ListMax+1), numbered(1000)}
	for _, wrong := range wrongItems() {
		lists = append(lists, []string{wrong}, []string{"a", wrong}, []string{wrong, "a"}, []string{"a", "b", wrong, "c"})
	}
	for _, items := range lists {
		if got := impl.RootOf(items); got != "" {
			t.Errorf("RootOf of %q is %q", items, got)
		}
		for at := range len(items) {
			if got := impl.RootProof(items, at); len(got) != 0 {
				t.Errorf("RootProof of %q at %d is %v", items, at, got)
			}
		}
	}
}

func TestP12NoSuchItem(t *testing.T) {
	for _, items := range itemLists() {
		for _, at := range []int{-1, len(items), len(items) + 1, math.MinInt, math.MaxInt} {
			if got := impl.RootProof(items, at); len(got) != 0 {
				t.Errorf("RootProof of %d items at %d is %v", len(items), at, got)
			}
		}
	}
}

func TestP12CheckOfAnyWay(t *testing.T) {
	d := &dice{state: 120}
	for many := range impl.SideMax + 3 {
		for range 20 {
			sides := []impl.Side{}
			for range many {
				sides = append(sides, impl.Side{Sum: d.sum(), Left: d.below(2) == 0})
			}
			item := d.item()
			root := modelLeads(item, sides)
			want := many <= impl.SideMax
			if impl.RootCheck(root, item, sides) != want {
				t.Fatalf("RootCheck of %d sides is %t", many, !want)
			}
			if impl.RootCheck(otherSum(root, d.below(16)), item, sides) || impl.RootCheck(strings.ToUpper(root)+"x", item, sides) {
				t.Fatalf("RootCheck of %d sides is true at another root", many)
			}
		}
	}
	if !impl.RootCheck(impl.SumOf("item a"), "a", nil) || !impl.RootCheck(impl.SumOf("item a"), "a", []impl.Side{}) {
		t.Error("RootCheck of one item is false")
	}
	if impl.RootCheck(impl.SumOf(""), "a", nil) || impl.RootCheck("", "", nil) || impl.RootCheck(impl.SumOf("item "), "", nil) {
		t.Error("RootCheck of no item is true")
	}
}

func TestP12CheckOfWrongInputs(t *testing.T) {
	for _, item := range wrongItems() {
		if impl.RootCheck(impl.SumOf("item "+item), item, nil) {
			t.Errorf("RootCheck of the item %q is true", item)
		}
	}
	for _, wrong := range wrongSums() {
		for _, left := range []bool{false, true} {
			for _, sides := range [][]impl.Side{{{Sum: wrong, Left: left}}, {{Sum: noughts}, {Sum: wrong, Left: left}}, {{Sum: wrong, Left: left}, {Sum: noughts}}} {
				if impl.RootCheck(modelLeads("a", sides), "a", sides) {
					t.Errorf("RootCheck by %v is true", sides)
				}
			}
		}
	}
}

func TestP13OtherItemsHaveAnotherRoot(t *testing.T) {
	for _, items := range itemLists() {
		root := impl.RootOf(items)
		var others [][]string
		for at, item := range items {
			others = append(others, slices.Delete(slices.Clone(items), at, at+1))
			if item != "q" {
				others = append(others, slices.Replace(slices.Clone(items), at, at+1, "q"))
			}
		}
		for at := range len(items) + 1 {
			others = append(others, slices.Insert(slices.Clone(items), at, "q"))
			if at > 0 {
				others = append(others, slices.Insert(slices.Clone(items), at, items[at-1]))
			}
		}
		for _, other := range others {
			if impl.RootOf(other) == root {
				t.Fatalf("RootOf of %q and %q is the same", items, other)
			}
		}
	}
}

func TestP14ProofFallsWithWhateverIsTurned(t *testing.T) {
	for _, items := range itemLists() {
		root := impl.RootOf(items)
		for at, item := range items {
			sides := impl.RootProof(items, at)
			for i := range sides {
				for figure := range 16 {
					turned := slices.Clone(sides)
					turned[i].Sum = otherSum(turned[i].Sum, figure)
					if impl.RootCheck(root, item, turned) {
						t.Fatalf("RootCheck of %q at %d is true with the sum %v", items, at, turned[i])
					}
				}
				without := slices.Delete(slices.Clone(sides), i, i+1)
				if impl.RootCheck(root, item, without) {
					t.Fatalf("RootCheck of %q at %d is true without the side %d", items, at, i)
				}
			}
			if impl.RootCheck(root, item, append(sides, impl.Side{Sum: root})) {
				t.Fatalf("RootCheck of %q at %d is true with a side more", items, at)
			}
		}
	}
}

func TestP14TheSideMatters(t *testing.T) {
	items := numbered(7)
	for at, item := range items {
		sides := impl.RootProof(items, at)
		for i := range sides {
			turned := slices.Clone(sides)
			turned[i].Left = !turned[i].Left
			if impl.RootCheck(impl.RootOf(items), item, turned) {
				t.Errorf("RootCheck at %d is true with the side %d on the other side", at, i)
			}
		}
	}
}

// goodHead is a head that is ok.
func goodHead() impl.Head {
	return impl.Head{Prev: modelSum("prev"), Root: modelSum("root"), Time: 123, Diff: 3, Nonce: 45}
}

// edgeHeads is heads that are ok, each number at each of its edges.
func edgeHeads() []impl.Head {
	d := &dice{state: 15}
	out := []impl.Head{goodHead()}
	for _, time := range []int{0, 1, 9, 10, 99998, impl.TimeMax} {
		for diff := 1; diff <= impl.DiffMax; diff++ {
			for _, nonce := range []int{0, 1, 99, 100, 399, impl.NonceMax} {
				out = append(out, impl.Head{Prev: d.sum(), Root: d.sum(), Time: time, Diff: diff, Nonce: nonce})
			}
		}
	}
	return out
}

// beyond is numbers beside those from low to high.
func beyond(low, high int) []int {
	return []int{low - 1, low - 1000, high + 1, high + 1000, math.MinInt, math.MaxInt, math.MaxInt32 + 1, 1<<32 + low}
}

// wrongButNonce is heads that are not ok, each by one part that is not its Nonce.
func wrongButNonce() []impl.Head {
	out := []impl.Head{{}}
	for _, s := range wrongSums() {
		h, g := goodHead(), goodHead()
		h.Prev, g.Root = s, s
		out = append(out, h, g)
	}
	for _, n := range beyond(0, impl.TimeMax) {
		h := goodHead()
		h.Time = n
		out = append(out, h)
	}
	for _, n := range beyond(1, impl.DiffMax) {
		h := goodHead()
		h.Diff = n
		out = append(out, h)
	}
	return out
}

// wrongHeads is heads that are not ok, each by one part.
func wrongHeads() []impl.Head {
	out := wrongButNonce()
	for _, n := range beyond(0, impl.NonceMax) {
		h := goodHead()
		h.Nonce = n
		out = append(out, h)
	}
	return out
}

func TestP15HeadIsReadBack(t *testing.T) {
	if got := impl.HeadPut(impl.Head{Prev: noughts, Root: "e3b0c44298fc1c14", Time: 7, Diff: 1, Nonce: 12}); got != "0000000000000000 e3b0c44298fc1c14 7 1 12" {
		t.Errorf("HeadPut is %q", got)
	}
	d := &dice{state: 150}
	heads := edgeHeads()
	for range 300 {
		heads = append(heads, d.head())
	}
	for _, h := range heads {
		s := impl.HeadPut(h)
		if s == "" || s != modelHeadPut(h) {
			t.Fatalf("HeadPut of %v is %q", h, s)
		}
		if got, ok := impl.HeadGet(s); !ok || got != h {
			t.Fatalf("HeadGet of %q is %v and %t", s, got, ok)
		}
	}
}

func TestP15HeadSum(t *testing.T) {
	for _, h := range edgeHeads()[:50] {
		seen := map[string]int{}
		for nonce := range impl.NonceMax + 1 {
			h.Nonce = nonce
			sum := impl.HeadSum(h)
			if sum != modelHeadSum(h) || sum != impl.SumOf("head "+impl.HeadPut(h)) {
				t.Fatalf("HeadSum of %v is %q", h, sum)
			}
			seen[sum]++
		}
		if len(seen) != impl.NonceMax+1 {
			t.Fatalf("heads with other numbers have %d sums", len(seen))
		}
	}
}

func TestP15WrongHeads(t *testing.T) {
	for _, h := range wrongHeads() {
		if impl.HeadPut(h) != "" || impl.HeadSum(h) != "" || impl.HeadMeets(h) {
			t.Errorf("the head %v is written as %q, with the sum %q", h, impl.HeadPut(h), impl.HeadSum(h))
		}
	}
}

// sameHeadGet holds HeadGet against its model, and against HeadPut.
func sameHeadGet(t *testing.T, s string) {
	t.Helper()
	h, ok := impl.HeadGet(s)
	if want, wantOk := modelHeadGet(s); h != want || ok != wantOk {
		t.Fatalf("HeadGet of %q is %v and %t, not %v and %t", s, h, ok, want, wantOk)
	}
	if ok && impl.HeadPut(h) != s {
		t.Fatalf("HeadGet of %q is %v, which is not written so", s, h)
	}
}

func TestP16WhatIsReadIsWrittenSo(t *testing.T) {
	for _, h := range edgeHeads() {
		s := impl.HeadPut(h)
		for at := range len(s) + 1 {
			sameHeadGet(t, s[:at])
			sameHeadGet(t, s[at:])
			for _, more := range []string{"0", "1", "9", "a", "g", " ", "+", "-", "_", ".", "\n", "\x00", "\xff"} {
				sameHeadGet(t, s[:at]+more+s[at:])
				if at < len(s) {
					sameHeadGet(t, s[:at]+more+s[at+1:])
					sameHeadGet(t, s[:at]+s[at+1:])
				}
			}
		}
	}
}

func TestP16NoHead(t *testing.T) {
	prev, root := modelSum("prev"), modelSum("root")
	both := prev + " " + root + " "
	bad := []string{
		"", " ", "    ", "head", both, both + "1", both + "1 2", both + "1 2 ", both + "1 2 3 4", both + "1 2 3 ", " " + both + "1 2 3",
		both + "01 2 3", both + "1 02 3", both + "1 2 03", both + "1 2 00", both + "00 2 3", both + "+1 2 3", both + "-0 2 3", both + "1 2 -0",
		both + "1 0 3", both + "1 9 3", both + "100000 2 3", both + "1 2 401", both + "-1 2 3", both + "999999999 2 3", both + "1 2 999999999",
		both + "1000000000 2 3", both + "18446744073709551617 2 3", both + "1 18446744073709551618 3", both + "1_0 2 3", both + "0x1 2 3", both + "1e1 2 3",
		both + "1  2 3", both + "1\t2 3", both + "1\n2 3", both + "1 2 3\n", both + "1 2 3\x00", prev + "  " + root + " 1 2 3", both + "a 2 3", both + " 2 3",
		strings.ToUpper(both) + "1 2 3", prev + " 1 2 3", "head " + both + "1 2 3", both + "\u0661 2 3", strings.Repeat(both, 1000), strings.Repeat(" ", 100000),
	}
	for _, s := range bad {
		if h, ok := impl.HeadGet(s); ok || h != (impl.Head{}) {
			t.Errorf("HeadGet of %q is %v and %t", s, h, ok)
		}
		sameHeadGet(t, s)
	}
}

func TestP17FirstNumberIsTaken(t *testing.T) {
	d := &dice{state: 17}
	heads := edgeHeads()
	for range 300 {
		heads = append(heads, d.head())
	}
	behind := 0
	for _, h := range heads {
		for _, nonce := range []int{h.Nonce, -1, impl.NonceMax + 1, math.MinInt, math.MaxInt} {
			h.Nonce = nonce
			got, ok := impl.HeadMine(h)
			if want, wantOk := modelHeadMine(h); got != want || ok != wantOk {
				t.Fatalf("HeadMine of %v is %v and %t, not %v and %t", h, got, ok, want, wantOk)
			}
			if !ok || !impl.HeadMeets(got) {
				t.Fatalf("HeadMine of %v is %v, not small enough", h, got)
			}
			behind = max(behind, got.Nonce)
			less := got
			for less.Nonce = 0; less.Nonce < got.Nonce; less.Nonce++ {
				if impl.HeadMeets(less) {
					t.Fatalf("HeadMine of %v is %v, but %d is enough", h, got, less.Nonce)
				}
			}
			got.Nonce = nonce
			if got != h {
				t.Fatalf("HeadMine of %v has other parts: %v", h, got)
			}
		}
	}
	if behind < 20 {
		t.Errorf("no head needs a number above %d", behind)
	}
}

func TestP17WrongHeadIsNotMade(t *testing.T) {
	for _, h := range wrongButNonce() {
		if got, ok := impl.HeadMine(h); ok || got != (impl.Head{}) {
			t.Errorf("HeadMine of %v is %v and %t", h, got, ok)
		}
	}
}

// nearHeads is, for each Diff above 1, a head with the most that is small enough, and one with the least that is not.
func nearHeads(t *testing.T) map[impl.Head]bool {
	t.Helper()
	out := map[impl.Head]bool{}
	missing := map[[2]int]int{}
	for diff := 2; diff <= impl.DiffMax; diff++ {
		missing[[2]int{diff, 32767 / diff}]++
		missing[[2]int{diff, 32767/diff + 1}]++
	}
	h := impl.Head{Prev: noughts, Root: modelSum("near")}
	for try := 0; len(missing) > 0; try++ {
		if try == 5000000 {
			t.Fatalf("no head is near %v", missing)
		}
		h.Diff, h.Nonce, h.Time = 2+try%7, try/7%401, try/2807
		near := [2]int{h.Diff, modelShort(h)}
		if missing[near] > 0 {
			delete(missing, near)
			out[h] = near[1] == 32767/h.Diff
		}
	}
	return out
}

func TestP18SmallEnoughToTheLast(t *testing.T) {
	for h, want := range nearHeads(t) {
		if got := impl.HeadMeets(h); got != want {
			t.Errorf("HeadMeets of %v, with the sum %s, is %t", h, impl.HeadSum(h), got)
		}
	}
}

func TestP18SmallEnough(t *testing.T) {
	d := &dice{state: 18}
	for range 3000 {
		h := d.head()
		got := impl.HeadMeets(h)
		if got != modelMeets(h) || got != (impl.SumHead(impl.HeadSum(h))/65536*h.Diff < 32768) {
			t.Fatalf("HeadMeets of %v, with the sum %s, is %t", h, impl.HeadSum(h), got)
		}
		if h.Diff == 1 && !got {
			t.Fatalf("HeadMeets of %v is false, though each sum is small enough", h)
		}
	}
}

// goodBlock is a block of items, behind none.
func goodBlock(items []string, diff int) impl.Block {
	h, ok := modelHeadMine(impl.Head{Prev: noughts, Root: modelRoot(items), Time: 5, Diff: diff})
	if !ok {
		panic("the model makes no head")
	}
	return impl.Block{Head: h, Items: items}
}

func TestP19BlockFilterHasAllItems(t *testing.T) {
	d := &dice{state: 19}
	for many := range impl.ItemMax + 1 {
		for _, items := range [][]string{d.items(many), numbered(many), slices.Repeat([]string{"a"}, many), goodItems()[:many]} {
			for diff := 1; diff <= impl.DiffMax; diff++ {
				b := goodBlock(items, diff)
				if !impl.BlockOk(b) || b.Head.Root != impl.RootOf(b.Items) {
					t.Fatalf("BlockOk of %v is false", b)
				}
				s := impl.BlockFilter(b)
				if s == "" || s != modelBlockFilter(b) || s != impl.FilterOf(impl.HeadSum(b.Head), items) {
					t.Fatalf("BlockFilter of %v is %q, not %q", b, s, modelBlockFilter(b))
				}
				for _, item := range items {
					if !impl.FilterHas(s, impl.HeadSum(b.Head), item) {
						t.Fatalf("BlockFilter of %v has no %q", b, item)
					}
				}
			}
		}
	}
}

func wrongBlock(t *testing.T, what string, b impl.Block) {
	t.Helper()
	if modelBlockOk(b) {
		t.Fatalf("%s is right: %v", what, b)
	}
	if impl.BlockOk(b) || impl.BlockFilter(b) != "" {
		t.Errorf("%s is BlockOk: %v", what, b)
	}
}

func TestP19WrongBlocks(t *testing.T) {
	wrongBlock(t, "nothing", impl.Block{})
	for many := range impl.ItemMax + 1 {
		items := numbered(many)
		b := goodBlock(items, 4)
		wrongBlock(t, "a block with an item more", impl.Block{Head: b.Head, Items: append(slices.Clone(items), "q")})
		wrongBlock(t, "a block with an item more", impl.Block{Head: b.Head, Items: append([]string{"q"}, items...)})
		if many > 0 {
			wrongBlock(t, "a block with an item less", impl.Block{Head: b.Head, Items: items[1:]})
			wrongBlock(t, "a block with another item", impl.Block{Head: b.Head, Items: append([]string{"q"}, items[1:]...)})
		}
		h := b.Head
		for h.Nonce = 0; modelMeets(h); h.Nonce++ {
		}
		wrongBlock(t, "a block that was not made", impl.Block{Head: h, Items: items})
		h = b.Head
		h.Time = -1
		wrongBlock(t, "a block with a wrong time", impl.Block{Head: h, Items: items})
	}
	for _, many := range []int{impl.ItemMax + 1, impl.ItemMax + 2, impl.ListMax, impl.ListMax + 1} {
		items := numbered(many)
		b := impl.Block{Items: items}
		b.Head, _ = modelHeadMine(impl.Head{Prev: noughts, Root: modelSum("root"), Diff: 1})
		if many <= impl.ListMax {
			b = goodBlock(items, 1)
		}
		wrongBlock(t, "a block with "+strconv.Itoa(many)+" items", b)
	}
	for _, item := range wrongItems() {
		b := goodBlock(nil, 1)
		b.Head.Root = modelSum("item " + item)
		b.Head, _ = modelHeadMine(b.Head)
		b.Items = []string{item}
		wrongBlock(t, "a block with a wrong item", b)
	}
}

func TestP19BlockEndsBeforeRoot(t *testing.T) {
	for _, wrong := range []string{"", "A", "abcdefghi"} {
		wrongBlock(t, "a block without a root", impl.Block{Head: impl.Head{Prev: noughts, Diff: 1}, Items: []string{wrong}})
	}
}

func TestP20MarkTellsFilterAndMarksAhead(t *testing.T) {
	d := &dice{state: 20}
	long := d.text(impl.BytesMax)
	for _, filter := range []string{"", "\x00", "abc", impl.FilterOf(modelSum("key"), numbered(6)), long[:599], long, strings.Repeat("\x00", impl.BytesMax)} {
		for _, prev := range []string{noughts, "ffffffffffffffff", d.sum()} {
			mark := impl.MarkOf(prev, filter)
			if mark != modelMark(prev, filter) || mark != impl.SumOf("mark "+prev+" "+impl.SumOf(filter)) || !modelIsSum(mark) {
				t.Fatalf("MarkOf of %q, %q is %q", prev, filter, mark)
			}
			if impl.MarkOf(mark, filter) == mark || impl.MarkOf(d.sum(), filter) == mark {
				t.Errorf("MarkOf of %q, %q is the same behind another mark", prev, filter)
			}
			for _, more := range []string{"\x00", "a", "\xff"} {
				if impl.MarkOf(prev, filter+more) == mark || impl.MarkOf(prev, more+filter) == mark {
					t.Errorf("MarkOf of %q, %q is the same with a byte more", prev, filter)
				}
			}
		}
	}
}

func TestP20NoMark(t *testing.T) {
	for _, many := range []int{impl.BytesMax + 1, impl.BytesMax + 2, 10000} {
		if got := impl.MarkOf(noughts, strings.Repeat("a", many)); got != "" {
			t.Errorf("MarkOf of %d bytes is %q", many, got)
		}
	}
	for _, wrong := range wrongSums() {
		if got := impl.MarkOf(wrong, "abc"); got != "" {
			t.Errorf("MarkOf behind %q is %q", wrong, got)
		}
	}
}
