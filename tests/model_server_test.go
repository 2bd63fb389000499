package tests

import (
	"slices"

	"loop.example/cordillera/impl"
)

// modelAsks is all questions that are ok.
func modelAsks() []impl.Ask {
	var out []impl.Ask
	for from := range 21 {
		out = append(out, impl.Ask{Kind: 4, From: from})
		for num := 1; num <= 6; num++ {
			for kind := 1; kind <= 3; kind++ {
				out = append(out, impl.Ask{Kind: kind, From: from, Num: num})
			}
		}
	}
	for num := 1; num <= 6; num++ {
		out = append(out, impl.Ask{Kind: 5, Num: num})
	}
	return out
}

func modelAskOk(q impl.Ask) bool {
	return slices.Contains(modelAsks(), q)
}

func modelReply(list []impl.Block, q impl.Ask) impl.Reply {
	if !modelAskOk(q) || !modelChainOk(list) {
		return impl.Reply{}
	}
	out := impl.Reply{Kind: q.Kind}
	switch q.Kind {
	case 4:
		for at, b := range list {
			if at == q.From {
				out.Blocks = append(out.Blocks, b)
			}
		}
		return out
	case 5:
		out.Samples = modelSamples(headsOf(list), q.Num)
		return out
	}
	marks := modelMarks(list)
	for at, b := range list {
		switch {
		case at < q.From || at >= q.From+q.Num:
		case q.Kind == 1:
			out.Heads = append(out.Heads, b.Head)
		case q.Kind == 2:
			out.Texts = append(out.Texts, modelBlockFilter(b))
		case q.Kind == 3:
			out.Texts = append(out.Texts, marks[at])
		}
	}
	return out
}

func modelServerOk(s impl.Server) bool {
	wrong := slices.ContainsFunc(s.Tokens, func(n int) bool { return n < 0 || n > 8 })
	if wrong || len(s.Tokens) != 3 || len(s.Cache) > 4 || !modelChainOk(s.Blocks) {
		return false
	}
	// Each filter of the chain may be kept once.
	left := map[impl.Cached]int{}
	for at, b := range s.Blocks {
		left[impl.Cached{At: at, Text: modelBlockFilter(b)}] = 1
	}
	for _, kept := range s.Cache {
		left[kept]--
		if left[kept] < 0 {
			return false
		}
	}
	return true
}

func modelServerNew(list []impl.Block) impl.Server {
	if !modelChainOk(list) {
		return impl.Server{}
	}
	return impl.Server{Blocks: list, Tokens: []int{8, 8, 8}}
}

// modelCost is what a question of each kind costs.
var modelCost = map[int]int{1: 1, 2: 1, 3: 1, 4: 2, 5: 3}

// modelCache is the last four different ones of all that was asked for, as each was asked for last.
func modelCache(was []impl.Cached, more []impl.Cached) []impl.Cached {
	var out []impl.Cached
	for _, one := range slices.Backward(append(slices.Clone(was), more...)) {
		if len(out) < 4 && !slices.Contains(out, one) {
			out = append(out, one)
		}
	}
	slices.Reverse(out)
	return out
}

func modelServerDo(s impl.Server, peer int, q impl.Ask) (impl.Server, impl.Reply) {
	switch {
	case !modelServerOk(s):
		return impl.Server{}, impl.Reply{}
	case peer < 0 || peer > 2 || !modelAskOk(q):
		return s, impl.Reply{}
	case s.Tokens[peer] < modelCost[q.Kind]:
		return s, impl.Reply{Kind: 9}
	}
	s.Tokens = slices.Clone(s.Tokens)
	s.Tokens[peer] -= modelCost[q.Kind]
	if q.Kind == 2 {
		s.Cache = modelCache(s.Cache, cachedOf(s.Blocks, q.From, q.From+q.Num))
	}
	return s, modelReply(s.Blocks, q)
}

func modelServerTick(s impl.Server) impl.Server {
	if !modelServerOk(s) {
		return impl.Server{}
	}
	s.Tokens = slices.Clone(s.Tokens)
	for i, n := range s.Tokens {
		s.Tokens[i] = []int{1, 2, 3, 4, 5, 6, 7, 8, 8}[n]
	}
	return s
}

func modelServerTurn(s impl.Server, list []impl.Block) (impl.Server, bool) {
	if !modelServerOk(s) {
		return impl.Server{}, false
	}
	if !modelChainOk(list) || !modelBetter(headsOf(list), headsOf(s.Blocks)) {
		return s, false
	}
	same := cachedOf(s.Blocks, 0, modelFork(headsOf(list), headsOf(s.Blocks)))
	out := impl.Server{Blocks: list, Tokens: s.Tokens}
	for _, kept := range s.Cache {
		if slices.Contains(same, kept) {
			out.Cache = append(out.Cache, kept)
		}
	}
	return out, true
}

// cachedOf is the filters of blocks from one place up to another, as they are kept.
func cachedOf(list []impl.Block, from, to int) []impl.Cached {
	var out []impl.Cached
	for at := from; at < min(to, len(list)); at++ {
		out = append(out, impl.Cached{At: at, Text: modelBlockFilter(list[at])})
	}
	return out
}

func sameReply(a, b impl.Reply) bool {
	return a.Kind == b.Kind && slices.Equal(a.Heads, b.Heads) && slices.Equal(a.Texts, b.Texts) && sameBlocks(a.Blocks, b.Blocks) && sameSamples(a.Samples, b.Samples)
}

func sameServer(a, b impl.Server) bool {
	return sameBlocks(a.Blocks, b.Blocks) && slices.Equal(a.Tokens, b.Tokens) && slices.Equal(a.Cache, b.Cache)
}

// ask is a question that is ok, of any kind as often as of another one.
func (d *dice) ask() impl.Ask {
	page := 1 + d.below(6)
	switch kind := 1 + d.below(5); kind {
	case 4:
		return impl.Ask{Kind: kind, From: d.below(21)}
	case 5:
		return impl.Ask{Kind: kind, Num: page}
	default:
		return impl.Ask{Kind: kind, From: d.below(21), Num: page}
	}
}

// cache is so many filters of blocks, in any order.
func (d *dice) cache(list []impl.Block, many int) []impl.Cached {
	all := cachedOf(list, 0, len(list))
	var out []impl.Cached
	for range min(many, len(all)) {
		at := d.below(len(all))
		out = append(out, all[at])
		all = slices.Delete(all, at, at+1)
	}
	return out
}

// server is a server that is ok, of a chain.
func (d *dice) server(list []impl.Block) impl.Server {
	return impl.Server{Blocks: list, Tokens: []int{d.below(9), d.below(9), d.below(9)}, Cache: d.cache(list, d.below(5))}
}
