package tests

import (
	"fmt"
	"slices"
	"strings"
	"testing"

	"loop.example/cordillera/impl"
)

// clientCall is a call of a function of peers and clients: what it answers.
type clientCall struct {
	what string
	call func(peers []impl.Peer, watch []string) []any
}

// clientCalls is a call of each kind, right and wrong ones.
func clientCalls() []clientCall {
	out := []clientCall{
		{"ClientRun", func(peers []impl.Peer, watch []string) []any { return []any{impl.ClientRun(peers, watch)} }},
		{"ClientRun of the last ones", func(peers []impl.Peer, watch []string) []any {
			return []any{impl.ClientRun(peers[len(peers)/2:], watch)}
		}},
		{"ClientRun for nothing", func(peers []impl.Peer, _ []string) []any { return []any{impl.ClientRun(peers, nil)} }},
		{"PeerOk", func(peers []impl.Peer, _ []string) []any { return []any{impl.PeerOk(peers[0])} }},
	}
	for _, q := range append(asked(), impl.Ask{}, impl.Ask{Kind: impl.AskFilters, Num: impl.PageMax}, impl.Ask{Kind: impl.AskMarks, Num: impl.PageMax}, impl.Ask{Kind: impl.AskBlock, From: impl.ChainMax}) {
		for at := range impl.PeersMax {
			out = append(out, clientCall{fmt.Sprint("PeerReply ", at, q), func(peers []impl.Peer, _ []string) []any {
				return pair(impl.PeerReply(peers[at%len(peers)], q))
			}})
		}
	}
	return out
}

// clientCase is peers, and items for which they are asked.
type clientCase struct {
	peers []impl.Peer
	watch []string
}

// clientCases is peers of each lie, and ones that are not ok.
func clientCases() []clientCase {
	d := &dice{state: 92}
	full := d.chain(nil, steps(0, 1, impl.ChainMax))
	server := impl.Server{Blocks: full, Tokens: []int{3, 0, 8}, Cache: d.cache(full, 4)}
	kept := func(lie, at int) impl.Peer {
		return impl.Peer{Server: goodServer(), Lie: lie, At: at}
	}
	out := []clientCase{
		{goodPeers(), []string{"a", "zz", "d"}},
		{[]impl.Peer{kept(impl.LieFilter, 1), kept(impl.LieBlock, 0), kept(impl.LieMarks, 3), kept(impl.LieNone, 2), kept(impl.LieShort, 2)}, d.watch(goodServer().Blocks)},
		{[]impl.Peer{kept(impl.LieHeads, 1), kept(impl.LieMute, 0)}, nil},
		{[]impl.Peer{{Server: server, Lie: impl.LieShort, At: 13}, {Server: server, Lie: impl.LieNone, At: 2}}, d.watch(full)},
		{[]impl.Peer{peerOf(nil, impl.LieShort, 0)}, []string{"a"}},
		{[]impl.Peer{kept(impl.LieBlock, 0)}, []string{goodServer().Blocks[1].Items[0]}},
		{[]impl.Peer{kept(impl.LieNone, 0)}, []string{"A"}},
	}
	for i, p := range wrongPeers()[:30] {
		out = append(out, clientCase{[]impl.Peer{kept(i%7, i%6), p}, numbered(i)})
	}
	return out
}

// deepPeers is peers with lists and texts of their own.
func deepPeers(list []impl.Peer) []impl.Peer {
	out := slices.Clone(list)
	for i := range out {
		out[i].Server = deepServer(out[i].Server)
	}
	return out
}

// deepTexts is texts of their own.
func deepTexts(list []string) []string {
	out := slices.Clone(list)
	for i := range out {
		out[i] = strings.Clone(out[i])
	}
	return out
}

// guardedPeers is peers with marks behind the end of each list, and a check that none of it changed.
func guardedPeers(t *testing.T, list []impl.Peer) ([]impl.Peer, func(what string)) {
	all := append(slices.Clone(list), slices.Repeat([]impl.Peer{{Lie: -77}}, 8)...)
	var checks []func(string)
	for i := range list {
		server, check := guardedServer(t, list[i].Server)
		all[i].Server = server
		checks = append(checks, check)
	}
	was := deepPeers(all)
	return all[:len(list)], func(what string) {
		t.Helper()
		for _, check := range checks {
			check(what)
		}
		if !slices.EqualFunc(all, was, samePeer) {
			t.Errorf("%s wrote into its peers, or behind them", what)
		}
	}
}

func TestNothingIsWrittenIntoPeers(t *testing.T) {
	for _, one := range clientCases() {
		peers, check := guardedPeers(t, one.peers)
		watch, watchCheck := guarded(t, "mark", one.watch...)
		for _, c := range clientCalls() {
			c.call(peers, watch)
			check(c.what)
			watchCheck(c.what)
		}
	}
}

func TestResultsAreNewMemory(t *testing.T) {
	for _, one := range clientCases() {
		peers, watch := deepPeers(one.peers), deepTexts(one.watch)
		for _, c := range clientCalls() {
			checkApart(t, c.what, c.call(peers, watch), []any{peers, watch})
		}
	}
}

// Peers may share their servers when they come in, and one of their items may be the text that liars add.
func TestResultsShareNoList(t *testing.T) {
	same := []string{"fake", "a"}
	list, _ := modelChainMine(goodChain(), 40, same)
	server := impl.ServerNew(list)
	server.Blocks[5].Items = same
	var peers []impl.Peer
	for _, lie := range []int{impl.LieBlock, impl.LieMarks, impl.LieHeads, impl.LieShort, impl.LieNone} {
		peers = append(peers, impl.Peer{Server: server, Lie: lie, At: 4})
	}
	for _, c := range clientCalls() {
		checkApart(t, c.what, c.call(peers, same), []any{peers, same})
	}
}

// loosePeers is peers, and a function that overwrites all their texts.
func loosePeers(list []impl.Peer) ([]impl.Peer, func()) {
	out := deepPeers(list)
	var gone []func()
	loose := func(s *string) {
		text, drop := looseText(*s)
		*s = text
		gone = append(gone, drop)
	}
	for _, p := range out {
		for i := range p.Server.Blocks {
			b := &p.Server.Blocks[i]
			loose(&b.Head.Prev)
			loose(&b.Head.Root)
			for k := range b.Items {
				loose(&b.Items[k])
			}
		}
		for i := range p.Server.Cache {
			loose(&p.Server.Cache[i].Text)
		}
	}
	return out, func() {
		for _, drop := range gone {
			drop()
		}
	}
}

// Texts of arguments are overwritten behind the call; the answer is as it was.
func TestResultsShareNoText(t *testing.T) {
	for _, one := range clientCases()[:6] {
		for _, c := range clientCalls() {
			want := fmt.Sprintf("%#v", c.call(one.peers, one.watch))
			peers, gone := loosePeers(one.peers)
			watch := slices.Clone(one.watch)
			drops := make([]func(), len(watch))
			for i := range watch {
				watch[i], drops[i] = looseText(watch[i])
			}
			answer := c.call(peers, watch)
			gone()
			for _, drop := range drops {
				drop()
			}
			if got := fmt.Sprintf("%#v", answer); got != want {
				t.Errorf("%s: the answer changed with an argument: %s, not %s", c.what, got, want)
			}
		}
	}
}

func TestClientsKeepNothingBetweenCalls(t *testing.T) {
	one := clientCases()[1]
	first := map[string]string{}
	for _, c := range clientCalls() {
		first[c.what] = fmt.Sprintf("%#v", c.call(one.peers, one.watch))
	}
	for _, c := range slices.Backward(clientCalls()) {
		if got := fmt.Sprintf("%#v", c.call(one.peers, one.watch)); got != first[c.what] {
			t.Errorf("%s hangs on the calls ahead: %s, not %s", c.what, got, first[c.what])
		}
	}
}
