package tests

import (
	"math"
	"slices"
	"testing"

	"loop.example/cordillera/impl"
)

// replyChains is chains whose ends are at, or one beside, each end of a page, and the longest ones.
func replyChains() [][]impl.Block {
	d := &dice{state: 36}
	out := [][]impl.Block{nil, {}, goodChain()}
	for _, many := range []int{1, 2, 5, 6, 7, 11, 12, 13, 19, impl.ChainMax} {
		out = append(out, d.chain(nil, d.times(many)))
	}
	return out
}

// wrongAsks is questions that are not ok, each by one part.
func wrongAsks() []impl.Ask {
	out := []impl.Ask{{}, {Kind: impl.AskSample, From: 1, Num: 1}, {Kind: impl.AskSample, From: impl.ChainMax, Num: impl.SampleMax}}
	for kind := impl.AskHeads; kind <= impl.AskSample; kind++ {
		low, high := 1, 6
		if kind == impl.AskBlock {
			low, high = 0, 0
		}
		for _, num := range append(beyond(low, high), 7, -1) {
			out = append(out, impl.Ask{Kind: kind, Num: num})
		}
		for _, from := range beyond(0, impl.ChainMax) {
			out = append(out, impl.Ask{Kind: kind, From: from, Num: low})
		}
	}
	for _, kind := range append(beyond(impl.AskHeads, impl.AskSample), impl.ReplyBusy) {
		for num := range 7 {
			out = append(out, impl.Ask{Kind: kind, Num: num}, impl.Ask{Kind: kind, From: 3, Num: num})
		}
	}
	return out
}

// turnPages asks a chain page by page, until fewer come, or there are as many as a chain has.
func turnPages(list []impl.Block, kind, num int) impl.Reply {
	all := impl.Reply{Kind: kind}
	for from := 0; from <= impl.ChainMax; from += num {
		r := impl.ReplyOf(list, impl.Ask{Kind: kind, From: from, Num: num})
		all.Heads, all.Texts = append(all.Heads, r.Heads...), append(all.Texts, r.Texts...)
		if len(r.Heads)+len(r.Texts) < num {
			break
		}
	}
	return all
}

func TestP36PageByPage(t *testing.T) {
	for _, list := range append(someChains(), replyChains()...) {
		var filters []string
		for _, b := range list {
			filters = append(filters, impl.BlockFilter(b))
		}
		heads, marks := headsOf(list), impl.ChainMarks(list)
		for num := 1; num <= impl.PageMax; num++ {
			if r := turnPages(list, impl.AskHeads, num); !slices.Equal(r.Heads, heads) || len(r.Texts) != 0 {
				t.Fatalf("heads, %d at a time, are %v, not %v", num, r, heads)
			}
			if r := turnPages(list, impl.AskMarks, num); !slices.Equal(r.Texts, marks) || len(r.Heads) != 0 {
				t.Fatalf("marks, %d at a time, are %v, not %v", num, r, marks)
			}
			if r := turnPages(list, impl.AskFilters, num); !slices.Equal(r.Texts, filters) || len(r.Heads) != 0 {
				t.Fatalf("filters, %d at a time, are %v, not %q", num, r, filters)
			}
		}
	}
}

func TestP36AnswerOfEachQuestion(t *testing.T) {
	d := &dice{state: 360}
	for _, list := range replyChains() {
		for range 60 {
			q := d.ask()
			if got, want := impl.ReplyOf(list, q), modelReply(list, q); !sameReply(got, want) {
				t.Fatalf("ReplyOf of %d blocks and %v is %v, not %v", len(list), q, got, want)
			}
		}
	}
	list := d.chain(nil, steps(0, 4, 9))
	for _, q := range modelAsks() {
		if got, want := impl.ReplyOf(list, q), modelReply(list, q); !sameReply(got, want) || got.Kind != q.Kind {
			t.Fatalf("ReplyOf of %v is %v, not %v", q, got, want)
		}
	}
}

func TestP36KnownAnswers(t *testing.T) {
	list := goodChain()
	if r := impl.ReplyOf(list, impl.Ask{Kind: 1, From: 4, Num: 6}); r.Kind != 1 || len(r.Heads) != 1 || impl.HeadSum(r.Heads[0]) != "752d5cacce6ebaa6" {
		t.Errorf("the last head is told as %v", r)
	}
	if r := impl.ReplyOf(list, impl.Ask{Kind: 3, From: 3, Num: 2}); r.Kind != 3 || len(r.Texts) != 2 || r.Texts[1] != "8c97178c8912858a" {
		t.Errorf("the last marks are told as %v", r)
	}
	if r := impl.ReplyOf(list, impl.Ask{Kind: 2, From: 2, Num: 1}); r.Kind != 2 || !slices.Equal(r.Texts, []string{"\x00"}) {
		t.Errorf("the filter of a block without items is told as %v", r)
	}
	if r := impl.ReplyOf(list, impl.Ask{Kind: 4, From: 1}); r.Kind != 4 || len(r.Blocks) != 1 || !slices.Equal(r.Blocks[0].Items, []string{"b", "c"}) {
		t.Errorf("the second block is told as %v", r)
	}
	if r := impl.ReplyOf(list, impl.Ask{Kind: 5, Num: 4}); r.Kind != 5 || len(r.Samples) != 4 || !impl.SampleCheck("c77585883560eb7c", 6, r.Samples) {
		t.Errorf("samples are told as %v", r)
	}
}

func TestP36PastTheEnd(t *testing.T) {
	for _, list := range replyChains() {
		for from := len(list); from <= impl.ChainMax; from++ {
			for kind := impl.AskHeads; kind <= impl.AskBlock; kind++ {
				q := impl.Ask{Kind: kind, From: from, Num: impl.PageMax}
				if kind == impl.AskBlock {
					q.Num = 0
				}
				if got := impl.ReplyOf(list, q); !sameReply(got, impl.Reply{Kind: kind}) {
					t.Fatalf("ReplyOf of %d blocks and %v is %v", len(list), q, got)
				}
			}
		}
	}
	for _, none := range [][]impl.Block{nil, {}} {
		if got := impl.ReplyOf(none, impl.Ask{Kind: impl.AskSample, Num: impl.SampleMax}); !sameReply(got, impl.Reply{Kind: impl.AskSample}) {
			t.Errorf("samples of no blocks are %v", got)
		}
	}
}

func TestP36WhichQuestionsAreOk(t *testing.T) {
	numbers := append([]int{math.MinInt, -100, 100, 400, math.MaxInt}, steps(-2, 1, 26)...)
	asks := append(modelAsks(), wrongAsks()...)
	for kind := -2; kind <= 10; kind++ {
		for _, from := range numbers {
			for _, num := range numbers {
				asks = append(asks, impl.Ask{Kind: kind, From: from, Num: num})
			}
		}
	}
	good := map[impl.Ask]bool{}
	for _, q := range modelAsks() {
		good[q] = true
	}
	for _, q := range asks {
		if impl.AskOk(q) != good[q] {
			t.Errorf("AskOk of %v is %t", q, !good[q])
		}
	}
	if len(good) != 21*6*3+21+6 {
		t.Errorf("the model knows %d questions", len(good))
	}
}

func TestP36WrongQuestions(t *testing.T) {
	for _, list := range [][]impl.Block{nil, goodChain()} {
		for _, q := range wrongAsks() {
			if got := impl.ReplyOf(list, q); modelAskOk(q) || !sameReply(got, impl.Reply{}) {
				t.Errorf("ReplyOf of %v is %v", q, got)
			}
		}
	}
}

func TestP36WrongChains(t *testing.T) {
	for _, list := range wrongChains() {
		for kind := impl.AskHeads; kind <= impl.AskSample; kind++ {
			q := impl.Ask{Kind: kind, Num: 1}
			if kind == impl.AskBlock {
				q.Num = 0
			}
			if got := impl.ReplyOf(list, q); !sameReply(got, impl.Reply{}) {
				t.Fatalf("ReplyOf of a wrong chain and %v is %v", q, got)
			}
		}
	}
}
