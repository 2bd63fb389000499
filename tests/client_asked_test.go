package tests

import (
	"slices"
	"testing"

	"loop.example/cordillera/impl"
)

// tired is a peer that has so many tokens left for a client.
func tired(list []impl.Block, lie, tokens int) impl.Peer {
	p := peerOf(list, lie, 0)
	p.Server.Tokens[0] = tokens
	return p
}

// How often one is asked: for heads until fewer than a page come, for marks and filters just for as many as heads; without a token each takes one try more.
func TestP43HowOftenOneIsAsked(t *testing.T) {
	d := &dice{state: 433}
	for _, c := range []struct{ many, full, half, empty int }{
		{0, 1, 1, 2},
		{1, 3, 3, 6},
		{5, 3, 3, 6},
		{6, 4, 4, 8},
		{7, 6, 8, 12},
		{11, 6, 8, 12},
		{12, 7, 10, 14},
		{13, 10, 14, 18},
		{17, 10, 14, 18},
		{18, 12, 16, 20},
		{19, 16, 20, 24},
		{20, 16, 20, 24},
	} {
		list := d.chain(nil, d.times(c.many))
		for i, want := range []int{c.full, c.half, c.empty} {
			r := checkClient(t, []impl.Peer{tired(list, impl.LieNone, []int{8, 4, 0}[i])}, nil)
			if r.Asked != want || r.Code != impl.ClientFine || len(r.Out) != 0 {
				t.Errorf("who has %d heads, and %d tokens, is asked %d times, not %d", c.many, []int{8, 4, 0}[i], r.Asked, want)
			}
		}
	}
}

// A block costs two tokens, so up to two tries are in vain.
func TestP43HowOftenBlocksAreAskedFor(t *testing.T) {
	list, _ := modelChainMine(nil, 7, []string{"d"})
	for tokens, want := range []int{9, 8, 7, 6, 5, 4, 4, 4, 4} {
		r := checkClient(t, []impl.Peer{tired(list, impl.LieNone, tokens)}, []string{"d"})
		if r.Asked != want || len(r.Hits) != 1 || len(r.Out) != 0 || len(r.Banned) != 0 {
			t.Errorf("with %d tokens one is asked %d times, not %d: %v", tokens, r.Asked, want, r)
		}
	}
}

// Tokens of a server's other peers are no concern of a client.
func TestP43OtherTokens(t *testing.T) {
	p := peerOf(goodChain(), impl.LieNone, 0)
	want := impl.ClientRun([]impl.Peer{p}, []string{"a"})
	p.Server.Tokens = []int{8, 0, 0}
	if got := checkClient(t, []impl.Peer{p}, []string{"a"}); !sameResult(got, want) {
		t.Errorf("tokens of others turn %v into %v", want, got)
	}
}

// Who says nothing is asked once as often as can be, and is out; it was not found to lie.
func TestP44WhoSaysNothing(t *testing.T) {
	list := goodChain()
	for tokens := range impl.TokenMax + 1 {
		for many := 1; many < impl.PeersMax; many++ {
			mute := slices.Repeat([]impl.Peer{tired(list, impl.LieMute, tokens)}, many)
			for place := range many + 1 {
				peers := slices.Insert(slices.Clone(mute), place, peerOf(list[:2], impl.LieNone, 0))
				r := checkClient(t, peers, nil)
				if r.Asked != 3+8*many || len(r.Heads) != 2 || len(r.Out) != many || len(r.Banned) != 0 || r.Code != impl.ClientFine {
					t.Fatalf("%d that say nothing end with %v", many, r)
				}
			}
			if r := checkClient(t, mute, []string{"a"}); !sameResult(r, impl.Result{Code: impl.ClientNobody, Asked: 8 * many}) {
				t.Errorf("%d that say nothing, alone, end with %v", many, r)
			}
		}
	}
}

// If nobody tells a chain there are no lists, those of who is out included; how often was asked is told.
func TestP45NobodyTellsAChain(t *testing.T) {
	list := goodChain()
	for _, c := range []struct {
		peers []impl.Peer
		asked int
	}{
		{[]impl.Peer{peerOf(list, impl.LieHeads, 0)}, 1},
		{[]impl.Peer{peerOf(list, impl.LieHeads, 4), peerOf(list, impl.LieHeads, 2)}, 2},
		{[]impl.Peer{peerOf(list, impl.LieMute, 0), tired(list, impl.LieHeads, 0)}, 10},
		{[]impl.Peer{peerOf(nil, impl.LieMute, 0)}, 8},
	} {
		r := checkClient(t, c.peers, []string{"a"})
		if !sameResult(r, impl.Result{Code: impl.ClientNobody, Asked: c.asked}) {
			t.Errorf("nobody tells a chain, and a client ends with %v", r)
		}
	}
}

// checkForm says that a client cannot ask so.
func checkForm(t *testing.T, what string, peers []impl.Peer, watch []string) {
	t.Helper()
	if r := sameClient(t, peers, watch); !sameResult(r, impl.Result{Code: impl.ClientForm}) {
		t.Errorf("%s: a client ends with %v", what, r)
	}
}

func TestP43AsManyPeersAsCanBe(t *testing.T) {
	p := peerOf(goodChain(), impl.LieNone, 0)
	for many := 1; many <= impl.PeersMax; many++ {
		r := checkClient(t, slices.Repeat([]impl.Peer{p}, many), []string{"a"})
		if r.Code != impl.ClientFine || len(r.Hits) != 2 {
			t.Errorf("%d peers end with %v", many, r)
		}
	}
	checkForm(t, "no peers", nil, nil)
	checkForm(t, "no peers", []impl.Peer{}, []string{"a"})
	checkForm(t, "one peer too many", slices.Repeat([]impl.Peer{p}, impl.PeersMax+1), nil)
	checkForm(t, "many too many", slices.Repeat([]impl.Peer{p}, 200), nil)
}

func TestP43AsManyItemsAsCanBe(t *testing.T) {
	p := []impl.Peer{peerOf(goodChain(), impl.LieNone, 0)}
	watch := append(numbered(impl.ListMax-1), "d")
	if r := checkClient(t, p, watch); r.Code != impl.ClientFine || !slices.Contains(r.Hits, impl.Hit{At: 4, Item: "d"}) {
		t.Errorf("%d items end with %v", len(watch), r)
	}
	checkForm(t, "one item too many", p, append(watch, "e"))
	checkForm(t, "one item twice too often", p, slices.Repeat([]string{"d"}, impl.ListMax+1))
	for _, item := range wrongItems() {
		checkForm(t, "a wrong item", p, []string{item})
		checkForm(t, "a wrong item at the end", p, []string{"a", "b", item})
	}
}

func TestP43WrongPeers(t *testing.T) {
	for i, wrong := range wrongPeers() {
		peers := slices.Repeat([]impl.Peer{peerOf(goodChain(), impl.LieNone, 0)}, impl.PeersMax)
		peers[i%impl.PeersMax] = wrong
		if r := impl.ClientRun(peers, nil); !sameResult(r, impl.Result{Code: impl.ClientForm}) {
			t.Errorf("with the wrong peer %d a client ends with %v", i, r)
		}
		if r := impl.ClientRun([]impl.Peer{wrong}, []string{"a"}); !sameResult(r, impl.Result{Code: impl.ClientForm}) {
			t.Errorf("with the wrong peer %d alone a client ends with %v", i, r)
		}
	}
}
