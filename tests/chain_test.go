package tests

import (
	"math"
	"slices"
	"testing"

	"loop.example/cordillera/impl"
)

// someChains is chains of all sizes, and how hard their heads are is of all kinds.
func someChains() [][]impl.Block {
	d := &dice{state: 21}
	out := [][]impl.Block{nil, {}}
	for many := range impl.ChainMax + 1 {
		out = append(out, d.chain(nil, d.times(many)))
	}
	for range 12 {
		out = append(out, d.chain(nil, d.times(impl.ChainMax)))
	}
	return append(out, d.chain(nil, steps(0, 1, impl.ChainMax)), d.chain(nil, steps(impl.TimeMax-2000, 100, impl.ChainMax)))
}

// steps is so many times, one as far behind the other as the next.
func steps(from, by, many int) []int {
	var out []int
	for i := range many {
		out = append(out, from+i*by)
	}
	return out
}

// forced is a head behind others, made as a chain wants it but for one part.
func forced(ahead []impl.Head, turn func(h *impl.Head)) impl.Head {
	prev, time := modelBehind(ahead)
	h := impl.Head{Prev: prev, Root: modelSum(""), Time: time + 1, Diff: modelHard(ahead)}
	turn(&h)
	h, ok := modelHeadMine(h)
	if !ok {
		panic("the model makes no head")
	}
	return h
}

// sameCheck holds ChainCheck, and what hangs on it, against their models.
func sameCheck(t *testing.T, what string, list []impl.Head, want int) {
	t.Helper()
	if got := modelCheck(list); got != want {
		t.Fatalf("%s: the model of ChainCheck is %d, not %d", what, got, want)
	}
	if got := impl.ChainCheck(list); got != want {
		t.Fatalf("%s: ChainCheck of %v is %d, not %d", what, list, got, want)
	}
	if impl.ChainDiff(list) != modelDiff(list) || impl.ChainWork(list) != modelWork(list) {
		t.Fatalf("%s: ChainDiff is %d, not %d, ChainWork %d, not %d", what, impl.ChainDiff(list), modelDiff(list), impl.ChainWork(list), modelWork(list))
	}
	if want == 0 {
		return
	}
	if impl.ChainDiff(list) != 0 || impl.ChainWork(list) != -1 {
		t.Fatalf("%s: ChainDiff is %d, ChainWork %d", what, impl.ChainDiff(list), impl.ChainWork(list))
	}
	if impl.ChainCheck(list[:want-1]) != 0 || impl.ChainCheck(list[:want]) != want {
		t.Fatalf("%s: ChainCheck is %d ahead of %d, and %d up to it", what, impl.ChainCheck(list[:want-1]), want, impl.ChainCheck(list[:want]))
	}
	good := headsOf(goodChain())
	for _, other := range [][]impl.Head{nil, good, list} {
		if impl.ChainBetter(list, other) || impl.ChainBetter(other, list) || impl.ChainFork(list, other) != -1 || impl.ChainFork(other, list) != -1 {
			t.Fatalf("%s: what is no chain is held against one", what)
		}
	}
}

// goodChain is the chain of the document's session.
func goodChain() []impl.Block {
	list := []impl.Block{}
	for i, items := range [][]string{{"a", "b"}, {"b", "c"}, nil, {"a"}, {"d"}} {
		list, _ = modelChainMine(list, []int{5, 9, 14, 18, 21}[i], items)
	}
	return list
}

func TestP21ChainsAreChains(t *testing.T) {
	for _, list := range someChains() {
		heads := headsOf(list)
		sameCheck(t, "a chain", heads, 0)
		for i, h := range heads {
			prev := noughts
			if i > 0 {
				prev = impl.HeadSum(heads[i-1])
			}
			if !impl.HeadMeets(h) || h.Prev != prev {
				t.Fatalf("ChainCheck is 0, but not at %d: %v", i, heads)
			}
			sameCheck(t, "a beginning", heads[:i], 0)
			sameCheck(t, "an end", heads[i+1:], min(1, len(heads)-i-1))
		}
	}
}

func TestP21FirstWrongHead(t *testing.T) {
	turns := []struct {
		what  string
		ahead bool
		turn  func(h *impl.Head)
	}{
		{"harder", false, func(h *impl.Head) { h.Diff++ }},
		{"another head ahead", false, func(h *impl.Head) { h.Prev = otherSum(h.Prev, 15) }},
		{"itself ahead", false, func(h *impl.Head) { h.Prev = h.Root }},
		{"the time of the one ahead", true, func(h *impl.Head) { h.Time-- }},
		{"an earlier time", true, func(h *impl.Head) { h.Time -= 2 }},
		{"the time 0", true, func(h *impl.Head) { h.Time = 0 }},
	}
	heads := headsOf((&dice{state: 210}).chain(nil, steps(7, 6, impl.ChainMax)))
	for at := range heads {
		sameCheck(t, "as it must be", append(slices.Clone(heads[:at]), forced(heads[:at], func(*impl.Head) {})), 0)
		for _, turn := range turns {
			if at == 0 && turn.ahead {
				continue
			}
			list := append(slices.Clone(heads[:at]), forced(heads[:at], turn.turn))
			sameCheck(t, turn.what, list, at+1)
			sameCheck(t, turn.what, append(list, heads[at+1:]...), at+1)
		}
		if at >= 4 {
			list := append(slices.Clone(heads[:at]), forced(heads[:at], func(h *impl.Head) { h.Diff-- }))
			sameCheck(t, "less hard", list, at+1)
			list = append(slices.Clone(heads[:at]), forced(heads[:at], func(h *impl.Head) { h.Prev = noughts }))
			sameCheck(t, "nothing ahead", list, at+1)
			list = append(slices.Clone(heads[:at]), forced(heads[:at], func(h *impl.Head) { h.Prev = heads[at-1].Prev }))
			sameCheck(t, "the one ahead of that ahead", list, at+1)
		}
	}
}

func TestP21WrongParts(t *testing.T) {
	heads := headsOf((&dice{state: 211}).chain(nil, steps(7, 6, 9)))
	for at := range heads {
		for _, wrong := range wrongHeads() {
			list := slices.Clone(heads)
			list[at] = wrong
			sameCheck(t, "a head that is not ok", list, at+1)
		}
		list := slices.Clone(heads)
		list[at] = list[(at+1)%len(list)]
		sameCheck(t, "a head of another place", list, at+1)
	}
}

func TestP21HeadThatWasNotMade(t *testing.T) {
	heads := headsOf((&dice{state: 213}).chain(nil, steps(7, 6, 12)))
	for at := range heads {
		for nonce := range 40 {
			list := slices.Clone(heads)
			list[at].Nonce = nonce
			if want := modelCheck(list); !modelMeets(list[at]) && want != at+1 {
				t.Fatalf("the model of ChainCheck with a head at %d that was not made is %d", at, want)
			}
			sameCheck(t, "another number", list, modelCheck(list))
		}
		list := slices.Clone(heads)
		list[at].Root = modelSum("other")
		sameCheck(t, "another root", list, modelCheck(list))
	}
}

func TestP21BehindChainMax(t *testing.T) {
	heads := headsOf((&dice{state: 212}).chain(nil, steps(0, 7, impl.ChainMax)))
	sameCheck(t, "as many as may be", heads, 0)
	for range 5 {
		heads = append(heads, forced(heads, func(*impl.Head) {}))
		sameCheck(t, "one more", heads, impl.ChainMax+1)
	}
	sameCheck(t, "many more", append(heads, make([]impl.Head, 1000)...), impl.ChainMax+1)
	sameCheck(t, "nothing", make([]impl.Head, 1000), 1)
	heads[3].Nonce = -1
	sameCheck(t, "more, and one that is not ok", heads, 4)
}

func TestP22KnownChain(t *testing.T) {
	list := []impl.Block{}
	for i, items := range [][]string{{"a", "b"}, {"b", "c"}, {}, {"a"}, {"d"}} {
		more, ok := impl.ChainMine(list, []int{5, 9, 14, 18, 21}[i], items)
		if !ok {
			t.Fatalf("ChainMine behind %v is false", list)
		}
		list = more
	}
	heads, marks := headsOf(list), impl.ChainMarks(list)
	if impl.ChainWork(heads) != 6 || impl.HeadSum(heads[4]) != "752d5cacce6ebaa6" || marks[4] != "8c97178c8912858a" {
		t.Errorf("the document's chain has the work %d, the last sum %s and mark %s", impl.ChainWork(heads), impl.HeadSum(heads[4]), marks[4])
	}
}

// sameMine holds ChainMine against its model.
func sameMine(t *testing.T, list []impl.Block, time int, items []string) ([]impl.Block, bool) {
	t.Helper()
	got, ok := impl.ChainMine(list, time, items)
	if want, wantOk := modelChainMine(list, time, items); !sameBlocks(got, want) || ok != wantOk {
		t.Fatalf("ChainMine of %v, %d, %q is %v and %t, not %v and %t", list, time, items, got, ok, want, wantOk)
	}
	return got, ok
}

func TestP22WhatIsMadeIsAChain(t *testing.T) {
	d := &dice{state: 22}
	for _, times := range [][]int{steps(0, 1, 20), steps(0, 20, 20), steps(0, 21, 20), steps(impl.TimeMax-19, 1, 20), d.times(20), d.times(20), d.times(20), d.times(20)} {
		var list []impl.Block
		for _, time := range times {
			for _, items := range [][]string{nil, {}, {"a", "a"}, numbered(impl.ItemMax), goodItems()[:6], d.items(d.below(7))} {
				more, ok := sameMine(t, list, time, items)
				if !ok || !impl.ChainOk(more) || len(more) != len(list)+1 || !sameBlocks(more[:len(list)], list) {
					t.Fatalf("ChainMine of %v, %d, %q is %v and %t", list, time, items, more, ok)
				}
				last := more[len(list)]
				if last.Head.Time != time || !slices.Equal(last.Items, items) || last.Head.Diff != impl.ChainDiff(headsOf(list)) {
					t.Fatalf("ChainMine of %v, %d, %q ends with %v", list, time, items, last)
				}
			}
			list, _ = impl.ChainMine(list, time, d.items(d.below(7)))
		}
		if len(list) != impl.ChainMax {
			t.Fatalf("the chain has %d blocks", len(list))
		}
	}
}

func TestP22WhatCannotBeMade(t *testing.T) {
	d := &dice{state: 220}
	for many := range impl.ChainMax {
		list := d.chain(nil, d.times(many))
		_, last := modelBehind(headsOf(list))
		for _, time := range []int{-1, math.MinInt, impl.TimeMax + 1, math.MaxInt, last, last - 1} {
			if more, ok := sameMine(t, list, time, []string{"a"}); ok || !sameBlocks(more, list) {
				t.Fatalf("ChainMine of %v, %d is %v and %t", list, time, more, ok)
			}
		}
		for _, time := range []int{last + 1, impl.TimeMax} {
			if _, ok := sameMine(t, list, time, []string{"a"}); !ok {
				t.Fatalf("ChainMine of %v, %d is false", list, time)
			}
		}
	}
	full := d.chain(nil, steps(3, 30, impl.ChainMax))
	if more, ok := sameMine(t, full, 5000, nil); ok || !sameBlocks(more, full) {
		t.Errorf("ChainMine behind %d is %v and %t", impl.ChainMax, more, ok)
	}
	late := d.chain(nil, []int{impl.TimeMax})
	if more, ok := sameMine(t, late, impl.TimeMax, nil); ok || !sameBlocks(more, late) {
		t.Errorf("ChainMine behind the last time is %v and %t", more, ok)
	}
}

func TestP22WrongItemsAndWrongChains(t *testing.T) {
	d := &dice{state: 221}
	full := d.chain(nil, steps(3, 30, impl.ChainMax))
	for _, list := range [][]impl.Block{nil, goodChain(), full} {
		lists := [][]string{numbered(impl.ItemMax + 1), slices.Repeat([]string{"a"}, impl.ItemMax+1), numbered(impl.ListMax), numbered(impl.ListMax + 1)}
		for _, wrong := range wrongItems() {
			lists = append(lists, []string{wrong}, []string{"a", wrong}, []string{wrong, "a", "b", "c", "d", "e"})
		}
		for _, items := range lists {
			for _, time := range []int{5000, -1} {
				if more, ok := sameMine(t, list, time, items); ok || len(more) != 0 {
					t.Fatalf("ChainMine of the items %q is %v and %t", items, more, ok)
				}
			}
		}
	}
	for _, list := range wrongChains() {
		if more, ok := sameMine(t, list, 5000, []string{"a"}); ok || len(more) != 0 {
			t.Fatalf("ChainMine of %v, no chain, is %v and %t", list, more, ok)
		}
	}
}

// wrongChains is blocks that are no chain, each by one part.
func wrongChains() [][]impl.Block {
	var out [][]impl.Block
	d := &dice{state: 222}
	chain := d.chain(nil, steps(3, 8, 6))
	for at := range chain {
		for _, items := range [][]string{append(slices.Clone(chain[at].Items), "q"), {"A"}, numbered(7)} {
			list := slices.Clone(chain)
			list[at].Items = items
			out = append(out, list)
		}
		list := slices.Clone(chain)
		list[at].Head.Prev = otherSum(list[at].Head.Prev, 7)
		out = append(out, list, slices.Delete(slices.Clone(chain[:5]), at/2, at/2+1))
	}
	full := d.chain(nil, steps(3, 8, impl.ChainMax))
	more := impl.Block{Head: forced(headsOf(full), func(*impl.Head) {})}
	tooMany := impl.Block{Items: numbered(impl.ItemMax + 1)}
	tooMany.Head = forced(headsOf(chain), func(h *impl.Head) { h.Root = modelRoot(tooMany.Items) })
	return append(out, append(full, more), append(slices.Clone(chain), tooMany), make([]impl.Block, 1), make([]impl.Block, 1000))
}

func TestP22ChainOk(t *testing.T) {
	for _, list := range someChains() {
		for many := range len(list) + 1 {
			if !impl.ChainOk(list[:many]) {
				t.Fatalf("ChainOk of %v is false", list[:many])
			}
		}
	}
	for _, list := range wrongChains() {
		if impl.ChainOk(list) || modelChainOk(list) {
			t.Fatalf("ChainOk of %v is true", list)
		}
	}
}

func TestP23HowHardTheNextIs(t *testing.T) {
	cases := []struct {
		times []int
		want  int
	}{
		{nil, 1},
		{[]int{0}, 1},
		{[]int{0, 1, 2}, 1},
		{[]int{0, 1, 2, 3}, 2},
		{[]int{0, 1, 2, 19}, 2},
		{[]int{0, 1, 2, 20}, 1},
		{[]int{500, 501, 502, 519}, 2},
		{[]int{500, 501, 502, 520}, 1},
		{[]int{0, 1, 2, 61}, 1},
		{[]int{0, 1, 2, 3, 4}, 2},
		{[]int{0, 1, 2, 3, 4, 5, 90}, 2},
		{[]int{0, 1, 2, 3, 100, 101, 102, 119}, 3},
		{[]int{0, 1, 2, 3, 100, 101, 102, 120}, 2},
		{[]int{0, 1, 2, 3, 100, 101, 102, 160}, 2},
		{[]int{0, 1, 2, 3, 100, 101, 102, 161}, 1},
		{[]int{0, 1, 2, 3, 4, 5, 6, 64}, 2},
		{[]int{0, 1, 2, 3, 4, 5, 6, 65}, 1},
		{[]int{0, 100, 200, 300, 301, 302, 303, 304}, 2},
		{steps(0, 1, 19), 5},
		{steps(0, 1, 20), 6},
		{steps(0, 20, 20), 1},
	}
	d := &dice{state: 23}
	for _, c := range cases {
		heads := headsOf(d.chain(nil, c.times))
		if got := impl.ChainDiff(heads); got != c.want {
			t.Errorf("ChainDiff behind %d is %d, not %d", c.times, got, c.want)
		}
	}
}

func TestP23ChangesByOneAtMost(t *testing.T) {
	turns := map[int]int{}
	for _, list := range someChains() {
		heads := headsOf(list)
		for many := range len(heads) + 1 {
			diff := impl.ChainDiff(heads[:many])
			if diff != modelDiff(heads[:many]) || diff < 1 || diff > impl.DiffMax {
				t.Fatalf("ChainDiff of %v is %d", heads[:many], diff)
			}
			if many == 0 {
				continue
			}
			turn := diff - heads[many-1].Diff
			if turn < -1 || turn > 1 || many%4 != 0 && turn != 0 {
				t.Fatalf("ChainDiff of %v is %d, by %d", heads[:many], diff, turn)
			}
			turns[turn]++
		}
	}
	if len(turns) != 3 {
		t.Errorf("it changes by %v alone", turns)
	}
}

func TestP24WorkIsThatOfAllHeads(t *testing.T) {
	if impl.ChainWork(nil) != 0 || impl.ChainWork([]impl.Head{}) != 0 {
		t.Error("the work of no heads is not 0")
	}
	for _, list := range someChains() {
		heads := headsOf(list)
		work := 0
		for i, h := range heads {
			work += h.Diff
			if got := impl.ChainWork(heads[:i+1]); got != work || got <= impl.ChainWork(heads[:i]) {
				t.Fatalf("ChainWork of %v is %d, not %d", heads[:i+1], got, work)
			}
		}
	}
	fast := headsOf((&dice{state: 24}).chain(nil, steps(0, 1, impl.ChainMax)))
	if got := impl.ChainWork(fast); got != 4*(1+2+3+4+5) {
		t.Errorf("ChainWork of heads that become harder and harder is %d", got)
	}
}

// sameBetter holds ChainBetter and ChainFork of two chains against their models, both ways.
func sameBetter(t *testing.T, a, b []impl.Head) {
	t.Helper()
	there, back := impl.ChainBetter(a, b), impl.ChainBetter(b, a)
	if there != modelBetter(a, b) || back != modelBetter(b, a) {
		t.Fatalf("ChainBetter of %v and %v is %t, and %t the other way", a, b, there, back)
	}
	if same := slices.Equal(a, b); same && (there || back) || !same && there == back {
		t.Fatalf("ChainBetter of %v and %v is %t both ways", a, b, there)
	}
	fork := impl.ChainFork(a, b)
	if fork != modelFork(a, b) || fork != impl.ChainFork(b, a) {
		t.Fatalf("ChainFork of %v and %v is %d, not %d", a, b, fork, modelFork(a, b))
	}
	if !slices.Equal(a[:fork], b[:fork]) {
		t.Fatalf("ChainFork of %v and %v is %d, but they part ahead of it", a, b, fork)
	}
	for _, h := range a[fork:] {
		if slices.Contains(b[fork:], h) {
			t.Fatalf("ChainFork of %v and %v is %d, but both have %v behind", a, b, fork, h)
		}
	}
}

func TestP25OneOfTwoIsBetter(t *testing.T) {
	d := &dice{state: 25}
	chains := someChains()
	for _, a := range chains {
		for _, b := range chains {
			sameBetter(t, headsOf(a), headsOf(b))
		}
		if len(a) == 0 {
			continue
		}
		heads := headsOf(a)
		without := heads[:len(heads)-1]
		if !impl.ChainBetter(heads, without) || impl.ChainBetter(without, heads) {
			t.Fatalf("%v is not better than without its last", heads)
		}
		if at := d.below(len(a)); at+3 <= impl.ChainMax {
			other := headsOf(d.chain(a[:at], steps(a[at].Head.Time+1, 2, 3)))
			sameBetter(t, heads, other)
		}
	}
}

func TestP25TwoOfTheSameWork(t *testing.T) {
	d := &dice{state: 250}
	first, longer := 0, 0
	for range 20 {
		a := headsOf(d.chain(nil, []int{0, 1, 2, 3, 4}))
		b := headsOf(d.chain(nil, steps(0, 20, 6)))
		c := headsOf(d.chain(nil, steps(5, 30, 6)))
		for _, pair := range [][2][]impl.Head{{a, b}, {b, a}, {b, c}, {c, b}} {
			if impl.ChainWork(pair[0]) != 6 || impl.ChainWork(pair[1]) != 6 {
				t.Fatalf("the chains have the work %d and %d", impl.ChainWork(pair[0]), impl.ChainWork(pair[1]))
			}
			sameBetter(t, pair[0], pair[1])
			want := impl.HeadSum(pair[0][len(pair[0])-1]) < impl.HeadSum(pair[1][len(pair[1])-1])
			if got := impl.ChainBetter(pair[0], pair[1]); got != want {
				t.Fatalf("ChainBetter of two of the same work is %t, not as the last sums are", got)
			}
		}
		if impl.ChainBetter(b, c) {
			first++
		}
		if impl.ChainBetter(b, a) {
			longer++
		}
	}
	if first == 0 || first == 20 || longer == 0 || longer == 20 {
		t.Errorf("of two chains of the same work the first is better %d times, the longer %d times of 20", first, longer)
	}
}

func TestP25MoreWorkNotMoreHeads(t *testing.T) {
	d := &dice{state: 251}
	hard := headsOf(d.chain(nil, steps(0, 1, 9)))
	long := headsOf(d.chain(nil, steps(0, 30, 14)))
	if impl.ChainWork(hard) != 15 || impl.ChainWork(long) != 14 || !impl.ChainBetter(hard, long) || impl.ChainBetter(long, hard) {
		t.Errorf("of the work %d and %d the first is not better", impl.ChainWork(hard), impl.ChainWork(long))
	}
	if impl.ChainBetter(nil, nil) || impl.ChainBetter(nil, []impl.Head{}) || impl.ChainBetter(nil, long) || !impl.ChainBetter(long, nil) {
		t.Error("the empty chain is better")
	}
}

func TestP26WhereTwoChainsPart(t *testing.T) {
	d := &dice{state: 26}
	chain := d.chain(nil, steps(0, 5, 14))
	heads := headsOf(chain)
	for at := range len(chain) + 1 {
		for many := range 5 {
			other := headsOf(d.chain(chain[:at], steps(at*5+1, 3, many)))
			if got := impl.ChainFork(heads, other); got != at {
				t.Fatalf("ChainFork of two that part behind %d is %d", at, got)
			}
			sameBetter(t, heads, other)
		}
	}
	if impl.ChainFork(nil, nil) != 0 || impl.ChainFork(nil, heads) != 0 || impl.ChainFork(heads, heads) != len(heads) {
		t.Error("ChainFork of the empty chain, or of the same")
	}
}

func TestP26NoFork(t *testing.T) {
	heads := headsOf(goodChain())
	for at := range heads {
		wrong := slices.Clone(heads)
		wrong[at].Diff++
		for _, got := range []int{impl.ChainFork(wrong, heads), impl.ChainFork(heads, wrong), impl.ChainFork(wrong, wrong), impl.ChainFork(nil, wrong), impl.ChainFork(wrong, nil)} {
			if got != -1 {
				t.Errorf("ChainFork with a wrong head at %d is %d", at, got)
			}
		}
	}
}

func TestP27MarksAreOneBehindTheOther(t *testing.T) {
	for _, list := range someChains() {
		marks := impl.ChainMarks(list)
		if !slices.Equal(marks, modelMarks(list)) || len(marks) != len(list) {
			t.Fatalf("ChainMarks of %v is %q, not %q", list, marks, modelMarks(list))
		}
		ahead := noughts
		for i, mark := range marks {
			if mark != impl.MarkOf(ahead, impl.BlockFilter(list[i])) {
				t.Fatalf("ChainMarks of %v is %q at %d", list, mark, i)
			}
			ahead = mark
			if !slices.Equal(impl.ChainMarks(list[:i]), marks[:i]) {
				t.Fatalf("ChainMarks of the first %d of %v is %q", i, list, impl.ChainMarks(list[:i]))
			}
		}
	}
	for _, list := range wrongChains() {
		if got := impl.ChainMarks(list); len(got) != 0 {
			t.Errorf("ChainMarks of %v, no chain, is %q", list, got)
		}
	}
}
