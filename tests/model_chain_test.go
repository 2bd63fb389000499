package tests

import (
	"fmt"
	"regexp"
	"slices"
	"strconv"

	"loop.example/cordillera/impl"
)

const noughts = "0000000000000000"

// modelSplit is how many of some items stand below the left one of the two sums below their root.
func modelSplit(many int) int {
	left := 1
	for left*2 < many {
		left *= 2
	}
	return left
}

func modelRoot(items []string) string {
	if !modelAreItems(items) {
		return ""
	}
	switch len(items) {
	case 0:
		return modelSum("")
	case 1:
		return modelSum("item " + items[0])
	}
	left := modelSplit(len(items))
	return modelSum(fmt.Sprintf("both %s %s", modelRoot(items[:left]), modelRoot(items[left:])))
}

func modelSides(items []string, at int) []impl.Side {
	if !modelAreItems(items) || at < 0 || at >= len(items) || len(items) == 1 {
		return nil
	}
	left := modelSplit(len(items))
	if at < left {
		return append(modelSides(items[:left], at), impl.Side{Sum: modelRoot(items[left:])})
	}
	return append(modelSides(items[left:], at-left), impl.Side{Sum: modelRoot(items[:left]), Left: true})
}

// modelLeads is the root to which sums beside an item's way lead, whatever they are.
func modelLeads(item string, sides []impl.Side) string {
	if len(sides) == 0 {
		return modelSum("item " + item)
	}
	last := sides[len(sides)-1]
	below := modelLeads(item, sides[:len(sides)-1])
	if last.Left {
		return modelSum("both " + last.Sum + " " + below)
	}
	return modelSum("both " + below + " " + last.Sum)
}

func modelRootCheck(root string, item string, sides []impl.Side) bool {
	wrong := slices.ContainsFunc(sides, func(s impl.Side) bool { return !modelIsSum(s.Sum) })
	return modelIsItem(item) && len(sides) <= 8 && !wrong && modelLeads(item, sides) == root
}

func modelHeadOk(h impl.Head) bool {
	in := func(n, low, high int) bool { return n >= low && n <= high }
	return modelIsSum(h.Prev) && modelIsSum(h.Root) && in(h.Time, 0, 99999) && in(h.Diff, 1, 8) && in(h.Nonce, 0, 400)
}

func modelHeadPut(h impl.Head) string {
	if !modelHeadOk(h) {
		return ""
	}
	return fmt.Sprintf("%s %s %d %d %d", h.Prev, h.Root, h.Time, h.Diff, h.Nonce)
}

var headForm = regexp.MustCompile(`\A([0-9a-f]{16}) ([0-9a-f]{16}) (0|[1-9][0-9]{0,8}) (0|[1-9][0-9]{0,8}) (0|[1-9][0-9]{0,8})\z`)

func modelHeadGet(s string) (impl.Head, bool) {
	parts := headForm.FindStringSubmatch(s)
	if parts == nil {
		return impl.Head{}, false
	}
	var nums [3]int
	for i := range nums {
		nums[i], _ = strconv.Atoi(parts[3+i])
	}
	h := impl.Head{Prev: parts[1], Root: parts[2], Time: nums[0], Diff: nums[1], Nonce: nums[2]}
	if !modelHeadOk(h) {
		return impl.Head{}, false
	}
	return h, true
}

func modelHeadSum(h impl.Head) string {
	if !modelHeadOk(h) {
		return ""
	}
	return modelSum("head " + modelHeadPut(h))
}

// modelShort is the first 15 bits of a head's sum.
func modelShort(h impl.Head) int {
	n, err := strconv.ParseUint(modelHeadSum(h)[:4], 16, 16)
	if err != nil {
		panic(err)
	}
	return int(n / 2)
}

func modelMeets(h impl.Head) bool {
	return modelHeadOk(h) && modelShort(h)*h.Diff < 32768
}

func modelHeadMine(h impl.Head) (impl.Head, bool) {
	for h.Nonce = 0; h.Nonce <= 400; h.Nonce++ {
		if modelMeets(h) {
			return h, true
		}
	}
	return impl.Head{}, false
}

func modelBlockOk(b impl.Block) bool {
	return len(b.Items) <= 6 && modelAreItems(b.Items) && modelRoot(b.Items) == b.Head.Root && modelMeets(b.Head)
}

func modelBlockFilter(b impl.Block) string {
	if !modelBlockOk(b) {
		return ""
	}
	return modelOf(modelHeadSum(b.Head), b.Items)
}

func modelMark(prev string, filter string) string {
	if !modelIsSum(prev) || len(filter) > 600 {
		return ""
	}
	return modelSum("mark " + prev + " " + modelSum(filter))
}

// modelHard is how hard the head behind a chain is, told by times alone.
func modelHard(list []impl.Head) int {
	hard := 1
	for four := range slices.Chunk(list, 4) {
		if len(four) < 4 {
			break
		}
		span := four[3].Time - four[0].Time
		if span < 20 && hard < 8 {
			hard++
		}
		if span > 60 && hard > 1 {
			hard--
		}
	}
	return hard
}

// modelBehind is what the head behind some must name, and the time that it must be above.
func modelBehind(ahead []impl.Head) (string, int) {
	if len(ahead) == 0 {
		return noughts, -1
	}
	last := ahead[len(ahead)-1]
	return modelHeadSum(last), last.Time
}

func modelCheck(list []impl.Head) int {
	for i, h := range list {
		prev, time := modelBehind(list[:i])
		if i >= 20 || !modelMeets(h) || h.Diff != modelHard(list[:i]) || h.Prev != prev || h.Time <= time {
			return i + 1
		}
	}
	return 0
}

func modelDiff(list []impl.Head) int {
	if modelCheck(list) != 0 {
		return 0
	}
	return modelHard(list)
}

func modelWork(list []impl.Head) int {
	switch {
	case modelCheck(list) != 0:
		return -1
	case len(list) == 0:
		return 0
	}
	last := len(list) - 1
	return modelWork(list[:last]) + list[last].Diff
}

func modelBetter(a []impl.Head, b []impl.Head) bool {
	workA, workB := modelWork(a), modelWork(b)
	switch {
	case workA == -1 || workB == -1:
		return false
	case workA == workB && workA > 0:
		return modelHeadSum(a[len(a)-1]) < modelHeadSum(b[len(b)-1])
	}
	return workA > workB
}

func modelFork(a []impl.Head, b []impl.Head) int {
	if modelCheck(a) != 0 || modelCheck(b) != 0 {
		return -1
	}
	many := min(len(a), len(b))
	for !slices.Equal(a[:many], b[:many]) {
		many--
	}
	return many
}

func modelChainOk(list []impl.Block) bool {
	wrong := slices.ContainsFunc(list, func(b impl.Block) bool { return !modelBlockOk(b) })
	return !wrong && modelCheck(headsOf(list)) == 0
}

func modelChainMine(list []impl.Block, time int, items []string) ([]impl.Block, bool) {
	if !modelChainOk(list) || len(items) > 6 || !modelAreItems(items) {
		return nil, false
	}
	heads := headsOf(list)
	prev, last := modelBehind(heads)
	h, ok := modelHeadMine(impl.Head{Prev: prev, Root: modelRoot(items), Time: time, Diff: modelHard(heads)})
	if !ok || time <= last || len(list) == 20 {
		return list, false
	}
	return append(slices.Clone(list), impl.Block{Head: h, Items: items}), true
}

func modelMarks(list []impl.Block) []string {
	if !modelChainOk(list) || len(list) == 0 {
		return nil
	}
	last := len(list) - 1
	ahead := modelMarks(list[:last])
	return append(ahead, modelMark(append([]string{noughts}, ahead...)[last], modelBlockFilter(list[last])))
}

func headsOf(list []impl.Block) []impl.Head {
	var out []impl.Head
	for _, b := range list {
		out = append(out, b.Head)
	}
	return out
}

func sameBlocks(a []impl.Block, b []impl.Block) bool {
	return slices.EqualFunc(a, b, func(a, b impl.Block) bool { return a.Head == b.Head && slices.Equal(a.Items, b.Items) })
}

// sum is a sum that looks thrown.
func (d *dice) sum() string {
	return modelSum(d.text(8))
}

// head is a head that is ok, most of its numbers at an edge.
func (d *dice) head() impl.Head {
	edge := func(low, high int) int {
		return []int{low, high, low + d.below(high-low+1)}[d.below(3)]
	}
	return impl.Head{Prev: d.sum(), Root: d.sum(), Time: edge(0, 99999), Diff: edge(1, 8), Nonce: edge(0, 400)}
}

// times is times of a chain; each four last as long as a turn of how hard the next is asks for, or one more or less.
func (d *dice) times(many int) []int {
	var out []int
	now := d.below(50) - 1
	for len(out) < many {
		span := []int{3, 10, 19, 20, 21, 40, 59, 60, 61, 90}[d.below(10)]
		first := 1 + d.below(span-2)
		second := 1 + d.below(span-first-1)
		now += 1 + d.below(70)
		out = append(out, now, now+first, now+first+second, now+span)
		now += span
	}
	return out[:many]
}

// chain is a chain of the model behind another one, at some times.
func (d *dice) chain(list []impl.Block, times []int) []impl.Block {
	for _, time := range times {
		more, ok := modelChainMine(list, time, d.items(d.below(7)))
		if !ok {
			panic("the model makes no block")
		}
		list = more
	}
	return list
}
