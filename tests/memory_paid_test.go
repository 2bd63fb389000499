package tests

import (
	"fmt"
	"slices"
	"strings"
	"testing"

	"loop.example/cordillera/impl"
)

// paidCall is a call of a function of proofs: what it answers.
type paidCall struct {
	what string
	call func(list []impl.Block, p impl.Paid, texts []string) []any
}

// paidCalls is a call of each kind, right and wrong ones; texts are an item, a root, and a proof as it is written.
func paidCalls() []paidCall {
	out := []paidCall{
		{"PaidCheck", func(_ []impl.Block, p impl.Paid, texts []string) []any {
			return []any{impl.PaidCheck(texts[1], texts[0], p)}
		}},
		{"PaidCheck by no root", func(_ []impl.Block, p impl.Paid, texts []string) []any {
			return []any{impl.PaidCheck(texts[2], texts[0], p)}
		}},
		{"PaidDeep", func(_ []impl.Block, p impl.Paid, _ []string) []any { return []any{impl.PaidDeep(p)} }},
		{"PaidFind", func(list []impl.Block, _ impl.Paid, texts []string) []any {
			return []any{impl.PaidFind(list, texts[0])}
		}},
		{"PaidFind of what is no item", func(list []impl.Block, _ impl.Paid, texts []string) []any {
			return []any{impl.PaidFind(list, texts[1])}
		}},
		{"PaidPut", func(_ []impl.Block, p impl.Paid, _ []string) []any { return []any{impl.PaidPut(p)} }},
		{"PaidGet", func(_ []impl.Block, _ impl.Paid, texts []string) []any { return pair(impl.PaidGet(texts[2])) }},
		{"PaidGet of half", func(_ []impl.Block, _ impl.Paid, texts []string) []any {
			return pair(impl.PaidGet(texts[2][:len(texts[2])/2]))
		}},
	}
	for at := -1; at <= 6; at++ {
		for item := -1; item <= 2; item++ {
			out = append(out, paidCall{fmt.Sprintf("PaidOf at %d, item %d,", at, item), func(list []impl.Block, _ impl.Paid, _ []string) []any {
				return []any{impl.PaidOf(list, at, item)}
			}})
		}
	}
	return out
}

// paidCase is blocks, a proof, and texts.
type paidCase struct {
	list  []impl.Block
	paid  impl.Paid
	texts []string
}

func paidCases() []paidCase {
	d := &dice{state: 94}
	var out []paidCase
	for _, list := range append(paidChains()[2:12], d.chain(nil, steps(0, 1, impl.ChainMax))) {
		root := rangeRootOf(list)
		eachPaid(list, func(at, i int, p impl.Paid) {
			if i < 2 {
				out = append(out, paidCase{list, p, []string{list[at].Items[i], root, modelPaidPut(p)}})
			}
		})
	}
	for i, list := range wrongChains()[:8] {
		p := d.paid(i, 6+i, i+1, i)
		p.Proof.Steps[i].Work -= i % 2 * 1000
		out = append(out, paidCase{list, p, []string{"i0", "root", "3 " + modelPaidPut(d.paid(i, i, i, i))}})
	}
	return append(out, paidCase{nil, impl.Paid{}, []string{"", "", ""}}, paidCase{goodChain(), d.paid(19, 20, 8, 8), []string{"b", noughts, modelPaidPut(d.paid(0, 7, 8, 8))}})
}

// guardedPaid is a proof with marks behind the end of each list, and a check that none of it changed.
func guardedPaid(t *testing.T, p impl.Paid) (impl.Paid, func(what string)) {
	proof, proofCheck := guardedProof(t, p.Proof)
	sides, sidesCheck := guarded(t, impl.Side{Sum: "mark"}, p.Sides...)
	p.Proof, p.Sides = proof, sides
	return p, func(what string) {
		t.Helper()
		proofCheck(what)
		sidesCheck(what)
	}
}

// deepPaid is a proof with lists and texts of its own.
func deepPaid(p impl.Paid) impl.Paid {
	sides := slices.Clone(p.Sides)
	for i := range sides {
		sides[i].Sum = strings.Clone(sides[i].Sum)
	}
	return impl.Paid{At: p.At, Head: deepHead(p.Head), Proof: deepProof(p.Proof), Sides: sides}
}

func TestNothingIsWrittenIntoPaid(t *testing.T) {
	for _, one := range paidCases() {
		list, listCheck := guardedBlocks(t, one.list)
		paid, paidCheck := guardedPaid(t, one.paid)
		for _, c := range paidCalls() {
			c.call(list, paid, one.texts)
			listCheck(c.what)
			paidCheck(c.what)
		}
	}
}

func TestPaidIsNewMemory(t *testing.T) {
	for _, one := range paidCases() {
		list, paid, texts := deepBlocks(one.list), deepPaid(one.paid), deepTexts(one.texts)
		for _, c := range paidCalls() {
			checkApart(t, c.what, c.call(list, paid, texts), []any{list, paid, texts})
		}
	}
}

// Peaks and steps may be one list, and blocks may share their items, when they come in; no two lists that come out do.
func TestPaidSharesNoList(t *testing.T) {
	d := &dice{state: 940}
	same := []string{"a", "b", "a"}
	list := slices.Clone(goodChain())
	for i := range 3 {
		list, _ = modelChainMine(list, 30+7*i, same)
	}
	for i := 5; i < 8; i++ {
		list[i].Items = same
	}
	peaks := d.peaks(7)
	p := impl.Paid{At: 2, Head: list[2].Head, Proof: impl.Proof{Peaks: peaks, Steps: peaks}, Sides: []impl.Side{{Sum: peaks[0].Sum}, {Sum: peaks[0].Sum, Left: true}}}
	texts := []string{"a", rangeRootOf(list), modelPaidPut(p)}
	for _, c := range paidCalls() {
		checkApart(t, c.what, c.call(list, p, texts), []any{list, same, p, texts})
	}
}

// loosePaid is what comes in to a call, and a function that overwrites all its texts.
func loosePaid(one paidCase) (paidCase, func()) {
	own := paidCase{deepBlocks(one.list), deepPaid(one.paid), deepTexts(one.texts)}
	var gone []func()
	loose := func(s *string) {
		text, drop := looseText(*s)
		*s = text
		gone = append(gone, drop)
	}
	for i := range own.list {
		b := &own.list[i]
		loose(&b.Head.Prev)
		loose(&b.Head.Root)
		for k := range b.Items {
			loose(&b.Items[k])
		}
	}
	loose(&own.paid.Head.Prev)
	loose(&own.paid.Head.Root)
	for _, peaks := range [][]impl.Peak{own.paid.Proof.Peaks, own.paid.Proof.Steps} {
		for i := range peaks {
			loose(&peaks[i].Sum)
		}
	}
	for i := range own.paid.Sides {
		loose(&own.paid.Sides[i].Sum)
	}
	for i := range own.texts {
		loose(&own.texts[i])
	}
	return own, func() {
		for _, drop := range gone {
			drop()
		}
	}
}

// Texts of arguments are overwritten behind the call; the answer is as it was.
func TestPaidSharesNoText(t *testing.T) {
	for i, one := range paidCases() {
		if i%5 != 0 {
			continue
		}
		for _, c := range paidCalls() {
			want := fmt.Sprintf("%#v", c.call(one.list, one.paid, one.texts))
			own, gone := loosePaid(one)
			answer := c.call(own.list, own.paid, own.texts)
			gone()
			if got := fmt.Sprintf("%#v", answer); got != want {
				t.Errorf("%s: the answer changed with an argument: %s, not %s", c.what, got, want)
			}
		}
	}
}

func TestPaidKeepsNothingBetweenCalls(t *testing.T) {
	cases := paidCases()
	first := map[string]string{}
	tell := func(one paidCase, c paidCall) string {
		return fmt.Sprintf("%#v", c.call(one.list, one.paid, one.texts))
	}
	for _, c := range paidCalls() {
		first[c.what] = tell(cases[5], c)
		tell(cases[9], c)
	}
	for _, c := range slices.Backward(paidCalls()) {
		if got := tell(cases[5], c); got != first[c.what] {
			t.Errorf("%s hangs on the calls ahead: %s, not %s", c.what, got, first[c.what])
		}
	}
}
