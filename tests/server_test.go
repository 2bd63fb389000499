package tests

import (
	"slices"
	"testing"

	"loop.example/cordillera/impl"
)

// asked is one question of each kind.
func asked() []impl.Ask {
	return []impl.Ask{{Kind: impl.AskHeads, Num: 2}, {Kind: impl.AskFilters, From: 1, Num: 3}, {Kind: impl.AskMarks, From: 2, Num: 1}, {Kind: impl.AskBlock, From: 3}, {Kind: impl.AskSample, Num: 2}}
}

// goodServer is a server that is ok, and keeps as much as it can.
func goodServer() impl.Server {
	list := (&dice{state: 370}).chain(nil, steps(2, 7, 6))
	filters := cachedOf(list, 0, len(list))
	return impl.Server{Blocks: list, Tokens: []int{8, 0, 5}, Cache: []impl.Cached{filters[5], filters[0], filters[3], filters[1]}}
}

// serverTurns is ways to make goodServer one that is not ok, each by one part.
func serverTurns() []func(s *impl.Server) {
	out := []func(s *impl.Server){
		func(s *impl.Server) { *s = impl.Server{} },
		func(s *impl.Server) { s.Tokens = nil },
		func(s *impl.Server) { s.Tokens = []int{} },
		func(s *impl.Server) { s.Tokens = s.Tokens[:2] },
		func(s *impl.Server) { s.Tokens = append(s.Tokens, 1) },
		func(s *impl.Server) { s.Cache = append(s.Cache, cachedOf(s.Blocks, 2, 3)...) },
		func(s *impl.Server) { s.Cache[3] = s.Cache[0] },
		func(s *impl.Server) { s.Cache[1] = s.Cache[2] },
		func(s *impl.Server) { s.Cache = []impl.Cached{s.Cache[2], s.Cache[2]} },
		func(s *impl.Server) { s.Blocks = s.Blocks[:5] },
		func(s *impl.Server) { s.Blocks = nil },
		func(s *impl.Server) { s.Cache = make([]impl.Cached, 1) },
	}
	for i := range 3 {
		for _, n := range beyond(0, impl.TokenMax) {
			out = append(out, func(s *impl.Server) { s.Tokens[i] = n })
		}
	}
	for i := range impl.CacheMax {
		for _, at := range append(beyond(0, 5), 2, 4) {
			out = append(out, func(s *impl.Server) { s.Cache[i].At = at })
		}
		out = append(out, func(s *impl.Server) { s.Cache[i].Text = "" },
			func(s *impl.Server) { s.Cache[i].Text += "\x00" },
			func(s *impl.Server) { s.Cache[i].Text = modelBlockFilter(s.Blocks[2]) })
	}
	for _, list := range wrongChains() {
		out = append(out, func(s *impl.Server) { s.Blocks, s.Cache = list, nil })
	}
	return out
}

// wrongServers is servers that are not ok.
func wrongServers() []impl.Server {
	var out []impl.Server
	for _, turn := range serverTurns() {
		s := goodServer()
		turn(&s)
		out = append(out, s)
	}
	return out
}

// goodServers is servers that are ok: without blocks, and with all that they can have.
func goodServers() []impl.Server {
	d := &dice{state: 371}
	full := d.chain(nil, steps(0, 1, impl.ChainMax))
	out := []impl.Server{goodServer(),
		{Tokens: []int{0, 0, 0}},
		{Blocks: []impl.Block{}, Tokens: []int{8, 8, 8}, Cache: []impl.Cached{}},
		{Blocks: full, Tokens: []int{0, 8, 0}, Cache: cachedOf(full, 16, 20)},
		{Blocks: full, Tokens: []int{8, 0, 8}, Cache: cachedOf(full, 0, 4)},
	}
	for many := range impl.CacheMax + 1 {
		out = append(out, impl.Server{Blocks: goodChain(), Tokens: []int{many, 1, 2}, Cache: d.cache(goodChain(), many)})
	}
	for many := 1; many <= impl.ChainMax; many += 4 {
		out = append(out, d.server(d.chain(nil, d.times(many))))
	}
	return out
}

// sameDo holds ServerDo against its model.
func sameDo(t *testing.T, s impl.Server, peer int, q impl.Ask) (impl.Server, impl.Reply) {
	t.Helper()
	got, reply := impl.ServerDo(s, peer, q)
	want, wantReply := modelServerDo(s, peer, q)
	if !sameServer(got, want) || !sameReply(reply, wantReply) {
		t.Fatalf("ServerDo of %d blocks, %v, %v, %d and %v is %v, %v with %v, not %v, %v with %v", len(s.Blocks), s.Tokens, s.Cache, peer, q, got.Tokens, got.Cache, reply, want.Tokens, want.Cache, wantReply)
	}
	return got, reply
}

func TestP37WhichServersAreOk(t *testing.T) {
	for _, s := range goodServers() {
		if !impl.ServerOk(s) || !modelServerOk(s) {
			t.Errorf("ServerOk of %v is false", s)
		}
	}
	for i, s := range wrongServers() {
		if impl.ServerOk(s) || modelServerOk(s) {
			t.Errorf("ServerOk of the wrong server %d is true: %v", i, s)
		}
	}
}

// checkDone says what promise 37 does of a question that is ok, of a server and a peer that are.
func checkDone(t *testing.T, s impl.Server, peer int, q impl.Ask) impl.Server {
	t.Helper()
	got, reply := sameDo(t, s, peer, q)
	if !impl.ServerOk(got) || !sameBlocks(got.Blocks, s.Blocks) {
		t.Fatalf("behind %v a server is %v", q, got)
	}
	want := slices.Clone(s.Tokens)
	if want[peer] < modelCost[q.Kind] {
		if !sameReply(reply, impl.Reply{Kind: impl.ReplyBusy}) || !sameServer(got, s) {
			t.Fatalf("%v of a peer with %d tokens is answered by %v", q, want[peer], reply)
		}
		return got
	}
	want[peer] -= modelCost[q.Kind]
	if !sameReply(reply, impl.ReplyOf(s.Blocks, q)) || !slices.Equal(got.Tokens, want) {
		t.Fatalf("%v is answered by %v, and tokens are %d, not %d", q, reply, got.Tokens, want)
	}
	if q.Kind != impl.AskFilters && !slices.Equal(got.Cache, s.Cache) {
		t.Fatalf("%v turned what is kept from %v to %v", q, s.Cache, got.Cache)
	}
	return got
}

func TestP37WhatQuestionsCost(t *testing.T) {
	s := goodServer()
	for _, q := range asked() {
		for peer := range impl.PeerMax {
			for has := range impl.TokenMax + 1 {
				s.Tokens = []int{4, 4, 4}
				s.Tokens[peer] = has
				checkDone(t, s, peer, q)
			}
		}
	}
	for _, s := range goodServers() {
		for peer := range impl.PeerMax {
			for _, q := range asked() {
				checkDone(t, s, peer, q)
			}
		}
	}
}

func TestP37KnownCosts(t *testing.T) {
	costs := []int{1, 1, 1, 2, 3}
	for i, q := range asked() {
		s, _ := impl.ServerDo(impl.ServerNew(goodChain()), 2, q)
		if !slices.Equal(s.Tokens, []int{8, 8, 8 - costs[i]}) {
			t.Errorf("behind %v tokens are %d", q, s.Tokens)
		}
		s.Tokens = []int{8, costs[i], 8}
		s, r := impl.ServerDo(s, 1, q)
		if !slices.Equal(s.Tokens, []int{8, 0, 8}) || r.Kind != q.Kind {
			t.Errorf("with just enough tokens for %v they become %d, and the answer is %v", q, s.Tokens, r)
		}
		s.Tokens = []int{8, costs[i] - 1, 8}
		s, r = impl.ServerDo(s, 1, q)
		if !slices.Equal(s.Tokens, []int{8, costs[i] - 1, 8}) || r.Kind != 9 {
			t.Errorf("with one token too few for %v they become %d, and the answer is %v", q, s.Tokens, r)
		}
	}
}

func TestP37UntilItIsBusy(t *testing.T) {
	for _, q := range asked() {
		s := impl.ServerNew(goodChain())
		for range impl.TokenMax + 2 {
			s = checkDone(t, s, 1, q)
		}
		left := []int{0, 0, 0, 0, 0, 2}[q.Kind]
		if !slices.Equal(s.Tokens, []int{8, left, 8}) {
			t.Errorf("at the end of %v tokens are %d", q, s.Tokens)
		}
	}
}

func TestP37WrongPeerOrQuestion(t *testing.T) {
	for _, s := range goodServers()[:4] {
		for _, peer := range beyond(0, impl.PeerMax-1) {
			for _, q := range asked() {
				if got, r := sameDo(t, s, peer, q); !sameServer(got, s) || !sameReply(r, impl.Reply{}) {
					t.Fatalf("ServerDo of the peer %d is %v, %v", peer, got, r)
				}
			}
		}
	}
	s := goodServer()
	for _, q := range wrongAsks() {
		for peer := range impl.PeerMax {
			if got, r := impl.ServerDo(s, peer, q); !sameServer(got, s) || !sameReply(r, impl.Reply{}) {
				t.Fatalf("ServerDo of %v is %v, %v", q, got, r)
			}
		}
	}
}

func TestP37WrongServers(t *testing.T) {
	for i, s := range wrongServers() {
		for _, q := range append(asked(), impl.Ask{}) {
			for peer := -1; peer <= impl.PeerMax; peer++ {
				if got, r := impl.ServerDo(s, peer, q); !sameServer(got, impl.Server{}) || !sameReply(r, impl.Reply{}) {
					t.Fatalf("ServerDo of the wrong server %d and %v is %v, %v", i, q, got, r)
				}
			}
		}
	}
}

// A server is asked, and has a while go by, and turns, again and again.
func TestP37AServersLife(t *testing.T) {
	d := &dice{state: 372}
	kinds := map[int]int{}
	for range 8 {
		chain := d.chain(nil, d.times(1+d.below(6)))
		s := impl.ServerNew(chain)
		for range 60 {
			var r impl.Reply
			switch d.below(8) {
			case 0:
				s = sameTick(t, s)
			case 1:
				from := d.below(len(s.Blocks) + 1)
				if from < impl.ChainMax {
					s, _ = sameTurn(t, s, d.behind(s.Blocks[:from], min(2+d.below(4), impl.ChainMax-from)))
				}
			default:
				s, r = sameDo(t, s, d.below(impl.PeerMax+1), d.ask())
				kinds[r.Kind]++
			}
			if !impl.ServerOk(s) {
				t.Fatalf("a server is no more: %v", s)
			}
		}
	}
	if len(kinds) != 7 || slices.Min([]int{kinds[0], kinds[1], kinds[2], kinds[3], kinds[4], kinds[5], kinds[9]}) < 5 {
		t.Errorf("some answers are hardly met: %v", kinds)
	}
}

// cacheOf is a server that keeps some filters of a chain, and can be asked.
func cacheOf(list []impl.Block, places ...int) impl.Server {
	s := impl.Server{Blocks: list, Tokens: []int{8, 8, 8}}
	for _, at := range places {
		s.Cache = append(s.Cache, cachedOf(list, at, at+1)...)
	}
	return s
}

func TestP38KnownCaches(t *testing.T) {
	list := (&dice{state: 38}).chain(nil, steps(0, 5, 9))
	for _, c := range []struct {
		was       []int
		from, num int
		want      []int
	}{
		{nil, 0, 1, []int{0}},
		{nil, 5, 3, []int{5, 6, 7}},
		{nil, 2, 4, []int{2, 3, 4, 5}},
		{nil, 2, 5, []int{3, 4, 5, 6}},
		{nil, 0, 6, []int{2, 3, 4, 5}},
		{nil, 7, 6, []int{7, 8}},
		{nil, 8, 1, []int{8}},
		{[]int{3}, 3, 1, []int{3}},
		{[]int{3, 1}, 3, 1, []int{1, 3}},
		{[]int{3, 1}, 1, 1, []int{3, 1}},
		{[]int{3, 1, 0}, 2, 1, []int{3, 1, 0, 2}},
		{[]int{3, 1, 0}, 1, 1, []int{3, 0, 1}},
		{[]int{3, 1, 0, 7}, 2, 1, []int{1, 0, 7, 2}},
		{[]int{3, 1, 0, 7}, 3, 1, []int{1, 0, 7, 3}},
		{[]int{3, 1, 0, 7}, 0, 1, []int{3, 1, 7, 0}},
		{[]int{3, 1, 0, 7}, 7, 1, []int{3, 1, 0, 7}},
		{[]int{3, 1, 0, 7}, 7, 2, []int{1, 0, 7, 8}},
		{[]int{3, 1, 0, 7}, 0, 2, []int{3, 7, 0, 1}},
		{[]int{3, 1, 0, 7}, 2, 2, []int{0, 7, 2, 3}},
		{[]int{3, 2, 1, 0}, 0, 4, []int{0, 1, 2, 3}},
		{[]int{2, 3, 4, 5}, 0, 6, []int{2, 3, 4, 5}},
		{[]int{5, 4, 3, 2}, 0, 6, []int{2, 3, 4, 5}},
		{[]int{3, 1, 0, 7}, 9, 6, []int{3, 1, 0, 7}},
		{[]int{3, 1, 0, 7}, 20, 1, []int{3, 1, 0, 7}},
	} {
		got, r := impl.ServerDo(cacheOf(list, c.was...), 0, impl.Ask{Kind: impl.AskFilters, From: c.from, Num: c.num})
		if want := cacheOf(list, c.want...).Cache; !slices.Equal(got.Cache, want) || len(r.Texts) != min(c.num, max(0, 9-c.from)) {
			t.Errorf("behind %d, and %d from %d on, %v is kept, not %v", c.was, c.num, c.from, got.Cache, want)
		}
	}
}

func TestP38WhatWasAskedForLastIsKept(t *testing.T) {
	d := &dice{state: 380}
	for _, many := range []int{1, 3, 4, 5, 9, impl.ChainMax} {
		list := d.chain(nil, d.times(many))
		for range 60 {
			s := d.server(list)
			s.Tokens[1] = 1 + d.below(impl.TokenMax)
			q := impl.Ask{Kind: impl.AskFilters, From: d.below(many + 1), Num: 1 + d.below(impl.PageMax)}
			got, _ := sameDo(t, s, 1, q)
			last := cachedOf(list, q.From, q.From+q.Num)
			last = last[max(0, len(last)-impl.CacheMax):]
			if len(got.Cache) < len(last) || !slices.Equal(got.Cache[len(got.Cache)-len(last):], last) {
				t.Fatalf("behind %v, %v is kept, not %v at last", q, got.Cache, last)
			}
		}
	}
}

func TestP38WhoIsBusyKeepsAsItWas(t *testing.T) {
	for _, s := range goodServers() {
		s.Tokens = []int{8, 0, 8}
		got, r := impl.ServerDo(s, 1, impl.Ask{Kind: impl.AskFilters, Num: impl.PageMax})
		if !sameServer(got, s) || !sameReply(r, impl.Reply{Kind: impl.ReplyBusy}) {
			t.Errorf("a busy server became %v, with %v", got, r)
		}
	}
}

// sameTick holds ServerTick against its model.
func sameTick(t *testing.T, s impl.Server) impl.Server {
	t.Helper()
	got, want := impl.ServerTick(s), modelServerTick(s)
	if !sameServer(got, want) {
		t.Fatalf("ServerTick of %v is %v, not %v", s, got, want)
	}
	return got
}

func TestP39AWhileLater(t *testing.T) {
	s := cacheOf(goodChain(), 4, 2)
	for a := range impl.TokenMax + 1 {
		for b := range impl.TokenMax + 1 {
			s.Tokens = []int{a, b, (a + b) % 9}
			got := sameTick(t, s)
			want := []int{min(a+1, 8), min(b+1, 8), min((a+b)%9+1, 8)}
			if !impl.ServerOk(got) || !slices.Equal(got.Tokens, want) || !sameBlocks(got.Blocks, s.Blocks) || !slices.Equal(got.Cache, s.Cache) {
				t.Fatalf("ServerTick of %d is %v", s.Tokens, got)
			}
		}
	}
	for _, s := range goodServers() {
		sameTick(t, s)
	}
	s.Tokens = []int{0, 0, 0}
	for range impl.TokenMax + 3 {
		s = impl.ServerTick(s)
	}
	if !slices.Equal(s.Tokens, []int{8, 8, 8}) {
		t.Errorf("a long while later tokens are %d", s.Tokens)
	}
}

func TestP39WrongServers(t *testing.T) {
	for i, s := range wrongServers() {
		if got := impl.ServerTick(s); !sameServer(got, impl.Server{}) {
			t.Errorf("ServerTick of the wrong server %d is %v", i, got)
		}
	}
}

func TestP41ANewServer(t *testing.T) {
	for _, list := range append(someChains(), replyChains()...) {
		s := impl.ServerNew(list)
		if !impl.ServerOk(s) || !slices.Equal(s.Tokens, []int{8, 8, 8}) || len(s.Cache) != 0 || !sameBlocks(s.Blocks, list) {
			t.Fatalf("ServerNew of %v is %v", list, s)
		}
	}
	for _, list := range wrongChains() {
		if got := impl.ServerNew(list); !sameServer(got, impl.Server{}) || !sameServer(modelServerNew(list), got) {
			t.Fatalf("ServerNew of the wrong chain %v is %v", list, got)
		}
	}
}
