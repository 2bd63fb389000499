package tests

import (
	"slices"
	"testing"

	"loop.example/cordillera/impl"
)

// allLies is how peers lie, and that one does not.
func allLies() []int {
	return []int{impl.LieNone, impl.LieMarks, impl.LieFilter, impl.LieMute, impl.LieHeads, impl.LieBlock, impl.LieShort}
}

// peerOf is a peer with a new server.
func peerOf(list []impl.Block, lie, at int) impl.Peer {
	return impl.Peer{Server: impl.ServerNew(list), Lie: lie, At: at}
}

// wrongPeers is peers that are not ok, each by one part.
func wrongPeers() []impl.Peer {
	var out []impl.Peer
	for _, lie := range beyond(impl.LieNone, impl.LieShort) {
		out = append(out, impl.Peer{Server: goodServer(), Lie: lie})
	}
	for _, at := range beyond(0, impl.ChainMax-1) {
		for _, lie := range []int{impl.LieNone, impl.LieShort} {
			out = append(out, impl.Peer{Server: goodServer(), Lie: lie, At: at})
		}
	}
	for i, s := range wrongServers() {
		out = append(out, impl.Peer{Server: s, Lie: i % 7, At: i % impl.ChainMax})
	}
	return append(out, impl.Peer{})
}

// samePeerReply holds PeerReply against its model.
func samePeerReply(t *testing.T, p impl.Peer, q impl.Ask) (impl.Peer, impl.Reply) {
	t.Helper()
	got, reply := impl.PeerReply(p, q)
	want, wantReply := modelPeerReply(p, q)
	if !samePeer(got, want) || !sameReply(reply, wantReply) {
		t.Fatalf("PeerReply of %d blocks, the lie %d at %d, tokens %d and %v is %v with %v, not %v with %v", len(p.Server.Blocks), p.Lie, p.At, p.Server.Tokens, q, got, reply, want, wantReply)
	}
	return got, reply
}

func TestP42WhichPeersAreOk(t *testing.T) {
	for _, s := range goodServers() {
		for _, lie := range allLies() {
			for _, at := range []int{0, 1, len(s.Blocks) % impl.ChainMax, impl.ChainMax - 1} {
				if p := (impl.Peer{Server: s, Lie: lie, At: at}); !impl.PeerOk(p) || !modelPeerOk(p) {
					t.Errorf("PeerOk of the lie %d at %d is false", lie, at)
				}
			}
		}
	}
	for i, p := range wrongPeers() {
		if impl.PeerOk(p) || modelPeerOk(p) {
			t.Errorf("PeerOk of the wrong peer %d is true: %v", i, p)
		}
	}
}

func TestP42WrongPeers(t *testing.T) {
	for i, p := range wrongPeers() {
		for _, q := range append(asked(), impl.Ask{}) {
			if got, r := impl.PeerReply(p, q); !samePeer(got, impl.Peer{}) || !sameReply(r, impl.Reply{}) {
				t.Fatalf("PeerReply of the wrong peer %d and %v is %v with %v", i, q, got, r)
			}
		}
	}
}

func TestP42WrongQuestions(t *testing.T) {
	for _, lie := range allLies() {
		for has := range 2 {
			p := impl.Peer{Server: goodServer(), Lie: lie, At: 2}
			p.Server.Tokens[0] = has
			for _, q := range wrongAsks() {
				if got, r := impl.PeerReply(p, q); !samePeer(got, p) || !sameReply(r, impl.Reply{}) {
					t.Fatalf("PeerReply of the lie %d and %v is %v with %v", lie, q, got, r)
				}
			}
		}
	}
}

// Who does not lie answers as its server, the mute one never; the server is as behind ServerDo, however a peer lies.
func TestP42APeerAnswersAsItsServer(t *testing.T) {
	d := &dice{state: 42}
	for _, s := range goodServers() {
		for _, lie := range allLies() {
			for _, q := range asked() {
				p := impl.Peer{Server: s, Lie: lie, At: d.below(impl.ChainMax)}
				server, reply := impl.ServerDo(s, 0, q)
				got, r := samePeerReply(t, p, q)
				if !sameServer(got.Server, server) || got.Lie != lie || got.At != p.At {
					t.Fatalf("behind %v the peer with the lie %d is %v", q, lie, got)
				}
				if lie == impl.LieNone && !sameReply(r, reply) {
					t.Fatalf("who does not lie answers %v by %v, not %v", q, r, reply)
				}
				if (lie == impl.LieMute || reply.Kind == impl.ReplyBusy) && !sameReply(r, impl.Reply{Kind: impl.ReplyBusy}) {
					t.Fatalf("the lie %d answers %v by %v, not that it is busy", lie, q, r)
				}
			}
		}
	}
}

// Each question that is ok, of each lie, at places within, at the end of and behind the blocks.
func TestP42AllQuestionsOfAllLies(t *testing.T) {
	d := &dice{state: 420}
	list := d.chain(nil, steps(0, 6, 5))
	for _, lie := range allLies() {
		for _, q := range modelAsks() {
			if q.From > 6 && q.From < impl.ChainMax {
				continue
			}
			for _, at := range []int{0, d.below(5), 4, 5, impl.ChainMax - 1} {
				samePeerReply(t, peerOf(list, lie, at), q)
			}
		}
	}
}

func TestP42PeersAgainAndAgain(t *testing.T) {
	d := &dice{state: 421}
	busy := 0
	for _, list := range replyChains() {
		for _, lie := range allLies() {
			p := impl.Peer{Server: d.server(list), Lie: lie, At: d.below(impl.ChainMax)}
			for range 12 {
				var r impl.Reply
				p, r = samePeerReply(t, p, d.ask())
				if r.Kind == impl.ReplyBusy && lie != impl.LieMute {
					busy++
					p.Server = impl.ServerTick(p.Server)
				}
			}
		}
	}
	if busy < 50 {
		t.Errorf("only %d answers were busy", busy)
	}
}

// answered is what a peer with many tokens answers.
func answered(list []impl.Block, lie, at int, q impl.Ask) impl.Reply {
	_, r := impl.PeerReply(peerOf(list, lie, at), q)
	return r
}

func TestP42KnownLiesOfHeads(t *testing.T) {
	list := goodChain()
	all := impl.Ask{Kind: impl.AskHeads, Num: impl.PageMax}
	for _, lie := range []int{impl.LieNone, impl.LieMarks, impl.LieFilter, impl.LieBlock} {
		if r := answered(list, lie, 2, all); r.Kind != 1 || !slices.Equal(r.Heads, headsOf(list)) {
			t.Errorf("the lie %d tells the heads %v", lie, r)
		}
	}
	want := headsOf(list)
	want[3].Prev = modelSum("fake")
	if r := answered(list, impl.LieHeads, 3, all); !slices.Equal(r.Heads, want) {
		t.Errorf("heads with a false one are %v, not %v", r, want)
	}
	if r := answered(list, impl.LieHeads, 3, impl.Ask{Kind: impl.AskBlock, From: 3}); len(r.Blocks) != 1 || r.Blocks[0].Head != want[3] || !slices.Equal(r.Blocks[0].Items, []string{"a"}) {
		t.Errorf("the block of the false head is %v", r)
	}
	if r := answered(list, impl.LieHeads, 5, all); !slices.Equal(r.Heads, headsOf(list)) {
		t.Errorf("heads with a false one behind the end are %v", r)
	}
	for at := range impl.ChainMax {
		if r := answered(list, impl.LieShort, at, all); r.Kind != 1 || !slices.Equal(r.Heads, headsOf(list[:min(at, 5)])) {
			t.Errorf("the first %d heads are told as %v", at, r)
		}
	}
}

func TestP42KnownLiesOfBlocks(t *testing.T) {
	full, _ := modelChainMine(goodChain(), 30, numbered(impl.ItemMax))
	for at, b := range full {
		q := impl.Ask{Kind: impl.AskBlock, From: at}
		r := answered(full, impl.LieBlock, 0, q)
		want := impl.Block{Head: b.Head, Items: append(slices.Clone(b.Items), "fake")}
		if r.Kind != 4 || !sameBlocks(r.Blocks, []impl.Block{want}) || impl.BlockOk(r.Blocks[0]) {
			t.Errorf("the false block %d is %v", at, r)
		}
		for _, lie := range []int{impl.LieNone, impl.LieMarks, impl.LieFilter} {
			if r := answered(full, lie, at, q); !sameBlocks(r.Blocks, full[at:at+1]) {
				t.Errorf("the lie %d tells the block %d as %v", lie, at, r)
			}
		}
		if r := answered(full, impl.LieShort, at, q); !sameReply(r, impl.Reply{Kind: 4}) {
			t.Errorf("the block %d behind the first %d is %v", at, at, r)
		}
		if r := answered(full, impl.LieShort, at+1, q); !sameBlocks(r.Blocks, full[at:at+1]) {
			t.Errorf("the last block of the first %d is %v", at+1, r)
		}
	}
	if r := answered(full, impl.LieBlock, 0, impl.Ask{Kind: impl.AskBlock, From: len(full)}); !sameReply(r, impl.Reply{Kind: 4}) {
		t.Errorf("a block behind the last is %v", r)
	}
}

func TestP42KnownLiesOfFiltersAndMarks(t *testing.T) {
	list := goodChain()
	filters := impl.Ask{Kind: impl.AskFilters, Num: impl.PageMax}
	marks := impl.Ask{Kind: impl.AskMarks, Num: impl.PageMax}
	var truth []string
	for _, b := range list {
		truth = append(truth, impl.BlockFilter(b))
	}
	for _, lie := range []int{impl.LieNone, impl.LieHeads, impl.LieBlock} {
		if r := answered(list, lie, 1, filters); r.Kind != 2 || !slices.Equal(r.Texts, truth) {
			t.Errorf("the lie %d tells the filters %q", lie, r.Texts)
		}
	}
	for at := range list {
		wrong := slices.Clone(truth)
		wrong[at] = impl.FilterOf(impl.HeadSum(list[at].Head), append([]string{"fake"}, list[at].Items...))
		for _, lie := range []int{impl.LieMarks, impl.LieFilter} {
			if r := answered(list, lie, at, filters); r.Kind != 2 || !slices.Equal(r.Texts, wrong) || slices.Equal(wrong, truth) {
				t.Errorf("the lie %d at %d tells the filters %q, not %q", lie, at, r.Texts, wrong)
			}
		}
		want := slices.Clone(impl.ChainMarks(list)[:at])
		for i := at; i < len(list); i++ {
			want = append(want, impl.MarkOf(append([]string{noughts}, want...)[i], wrong[i]))
		}
		if r := answered(list, impl.LieMarks, at, marks); r.Kind != 3 || !slices.Equal(r.Texts, want) || want[4] == impl.ChainMarks(list)[4] {
			t.Errorf("marks that are false from %d on are %q, not %q", at, r.Texts, want)
		}
		for _, lie := range []int{impl.LieNone, impl.LieFilter, impl.LieHeads, impl.LieBlock} {
			if r := answered(list, lie, at, marks); r.Kind != 3 || !slices.Equal(r.Texts, impl.ChainMarks(list)) {
				t.Errorf("the lie %d at %d tells the marks %q", lie, at, r.Texts)
			}
		}
		if r := answered(list, impl.LieShort, at, marks); !slices.Equal(r.Texts, impl.ChainMarks(list)[:at]) {
			t.Errorf("the first %d marks are %q", at, r.Texts)
		}
		if r := answered(list, impl.LieShort, at, filters); !slices.Equal(r.Texts, truth[:at]) {
			t.Errorf("the first %d filters are %q", at, r.Texts)
		}
	}
}

// A block that has the false item already has no false filter.
func TestP42AFalseFilterThatIsTrue(t *testing.T) {
	list, _ := modelChainMine(goodChain(), 30, []string{"a", "fake"})
	for _, kind := range []int{impl.AskFilters, impl.AskMarks} {
		q := impl.Ask{Kind: kind, From: 5, Num: 1}
		for _, lie := range []int{impl.LieMarks, impl.LieFilter} {
			if r := answered(list, lie, 5, q); !sameReply(r, impl.ReplyOf(list, q)) {
				t.Errorf("the lie %d answers %v by %v", lie, q, r)
			}
		}
	}
}

func TestP42SamplesAreTrue(t *testing.T) {
	list := goodChain()
	for _, lie := range []int{impl.LieNone, impl.LieMarks, impl.LieFilter, impl.LieHeads, impl.LieBlock, impl.LieShort} {
		for at := range 7 {
			q := impl.Ask{Kind: impl.AskSample, Num: 1 + at%impl.SampleMax}
			if r := answered(list, lie, at, q); !sameReply(r, impl.ReplyOf(list, q)) || !impl.SampleCheck("c77585883560eb7c", 6, r.Samples) {
				t.Errorf("the lie %d at %d tells the samples %v", lie, at, r)
			}
		}
	}
}

// Who lies of filters keeps true ones, as its server does, and those of which it does not tell, too.
func TestP42WhatALiarKeeps(t *testing.T) {
	list := goodChain()
	for _, lie := range allLies() {
		p, _ := impl.PeerReply(peerOf(list, lie, 1), impl.Ask{Kind: impl.AskFilters, From: 1, Num: impl.PageMax})
		if !slices.Equal(p.Server.Cache, cachedOf(list, 1, 5)) || !slices.Equal(p.Server.Tokens, []int{7, 8, 8}) || !impl.PeerOk(p) {
			t.Errorf("the lie %d keeps %v", lie, p.Server.Cache)
		}
	}
}
