package tests

import (
	"slices"
	"testing"

	"loop.example/cordillera/impl"
)

// behind is a chain with so many blocks more, one soon behind the other.
func (d *dice) behind(list []impl.Block, more int) []impl.Block {
	_, last := modelBehind(headsOf(list))
	return d.chain(slices.Clone(list), steps(last+1+d.below(5), 1+d.below(8), more))
}

// sameTurn holds ServerTurn against its model, and against promise 40.
func sameTurn(t *testing.T, s impl.Server, list []impl.Block) (impl.Server, bool) {
	t.Helper()
	got, ok := impl.ServerTurn(s, list)
	want, wantOk := modelServerTurn(s, list)
	if ok != wantOk || !sameServer(got, want) {
		t.Fatalf("ServerTurn of %d blocks and %v to %d is %d, %v, %t, not %d, %v, %t", len(s.Blocks), s.Cache, len(list), len(got.Blocks), got.Cache, ok, len(want.Blocks), want.Cache, wantOk)
	}
	if !impl.ServerOk(got) || !slices.Equal(got.Tokens, s.Tokens) {
		t.Fatalf("ServerTurn is %v", got)
	}
	better := impl.ChainOk(list) && impl.ChainBetter(headsOf(list), headsOf(s.Blocks))
	if ok != better {
		t.Fatalf("ServerTurn is %t, but the other chain is better: %t", ok, better)
	}
	if !ok && !sameServer(got, s) {
		t.Fatalf("ServerTurn is false, and the server is %v, not as it was", got)
	}
	if back, again := impl.ServerTurn(got, s.Blocks); ok && (again || !sameServer(back, got) || !sameBlocks(got.Blocks, list)) {
		t.Fatalf("a better chain is taken, and back: %v", back)
	}
	return got, ok
}

func TestP40WhatIsKeptOfBlocksThatAreGone(t *testing.T) {
	d := &dice{state: 40}
	list := d.chain(nil, steps(0, 30, 6))
	all := cachedOf(list, 0, len(list))
	for fork := range len(list) + 1 {
		other := d.behind(list[:fork], 9)
		if got := modelFork(headsOf(list), headsOf(other)); got != fork {
			t.Fatalf("the chains part at %d, not at %d", got, fork)
		}
		for first := range len(list) {
			s := impl.Server{Blocks: list, Tokens: []int{first, 8, 0}}
			var want []impl.Cached
			// Kept are four filters in an order that is not that of their blocks.
			for i := range impl.CacheMax {
				at := (first + 5*i) % len(list)
				s.Cache = append(s.Cache, all[at])
				if at < fork {
					want = append(want, all[at])
				}
			}
			got, ok := sameTurn(t, s, other)
			if !ok || !slices.Equal(got.Cache, want) || !sameBlocks(got.Blocks, other) || !slices.Equal(got.Tokens, s.Tokens) {
				t.Fatalf("of %v, parting at %d, %v is kept, not %v", s.Cache, fork, got.Cache, want)
			}
		}
	}
}

// A chain with fewer blocks may be better, as its heads are harder.
func TestP40FewerBlocksWithMoreWork(t *testing.T) {
	d := &dice{state: 400}
	list := d.chain(nil, steps(0, 30, 11))
	for fork := range 3 {
		_, last := modelBehind(headsOf(list[:fork]))
		other := d.chain(slices.Clone(list[:fork]), steps(last+2, 1, 10-fork))
		s := cacheOf(list, 10, 1, 9, 0)
		got, ok := sameTurn(t, s, other)
		want := [][]impl.Cached{nil, {s.Cache[3]}, {s.Cache[1], s.Cache[3]}}[fork]
		if !ok || len(got.Blocks) >= len(list) || !slices.Equal(got.Cache, want) {
			t.Errorf("parting at %d, %d blocks become %d, and %v is kept, not %v", fork, len(list), len(got.Blocks), got.Cache, want)
		}
	}
}

func TestP40AnyTwoChains(t *testing.T) {
	d := &dice{state: 401}
	took, left := 0, 0
	for range 60 {
		list := d.chain(nil, d.times(1+d.below(9)))
		other := d.behind(list[:d.below(len(list)+1)], d.below(7))
		if _, ok := sameTurn(t, d.server(list), other); ok {
			took++
		} else {
			left++
		}
		sameTurn(t, d.server(other), list)
	}
	if took < 10 || left < 10 {
		t.Errorf("%d chains are taken, %d are not", took, left)
	}
}

func TestP40TheSameWork(t *testing.T) {
	d := &dice{state: 402}
	took, left := 0, 0
	for range 30 {
		list := d.chain(nil, steps(0, 30, 3))
		other := d.chain(slices.Clone(list[:2]), []int{61 + d.below(20)})
		lower := impl.HeadSum(other[2].Head) < impl.HeadSum(list[2].Head)
		got, ok := sameTurn(t, cacheOf(list, 2, 1, 0), other)
		if ok != lower {
			t.Fatalf("of the same work, the lower sum being %t, ServerTurn is %t", lower, ok)
		}
		if ok {
			took++
			if !slices.Equal(got.Cache, []impl.Cached{cachedOf(list, 1, 2)[0], cachedOf(list, 0, 1)[0]}) {
				t.Fatalf("%v is kept", got.Cache)
			}
		} else {
			left++
		}
	}
	if took < 3 || left < 3 {
		t.Errorf("%d chains are taken, %d are not", took, left)
	}
}

func TestP40NoBetterChain(t *testing.T) {
	for _, s := range goodServers() {
		for many := range len(s.Blocks) + 1 {
			if _, ok := sameTurn(t, s, s.Blocks[:many]); ok {
				t.Fatalf("of %d blocks the first %d are taken", len(s.Blocks), many)
			}
		}
		for _, none := range [][]impl.Block{nil, {}} {
			if _, ok := sameTurn(t, s, none); ok {
				t.Fatal("no blocks are taken")
			}
		}
		for _, list := range wrongChains() {
			if got, ok := impl.ServerTurn(s, list); ok || !sameServer(got, s) {
				t.Fatalf("a wrong chain is taken: %v", got)
			}
		}
	}
}

// Heads that are a better chain are not enough: the blocks must be ok, too.
func TestP40BetterHeadsWithOtherItems(t *testing.T) {
	s := cacheOf(goodChain(), 1, 0)
	better := (&dice{state: 403}).behind(goodChain(), 3)
	if _, ok := sameTurn(t, s, better); !ok {
		t.Fatal("a better chain is not taken")
	}
	for at := range better {
		list := slices.Clone(better)
		list[at].Items = []string{"other"}
		if got, ok := impl.ServerTurn(s, list); ok || !sameServer(got, s) {
			t.Errorf("with other items at %d a chain is taken: %v", at, got)
		}
	}
}

func TestP40AllIsKeptOfALongerChain(t *testing.T) {
	for _, s := range goodServers() {
		if len(s.Blocks) == impl.ChainMax {
			continue
		}
		got, ok := sameTurn(t, s, (&dice{state: 404}).behind(s.Blocks, impl.ChainMax-len(s.Blocks)))
		if !ok || !slices.Equal(got.Cache, s.Cache) || len(got.Blocks) != impl.ChainMax {
			t.Errorf("of %v, %v is kept, with %d blocks: %t", s.Cache, got.Cache, len(got.Blocks), ok)
		}
	}
}

func TestP40WrongServers(t *testing.T) {
	better := (&dice{state: 405}).chain(nil, steps(0, 1, impl.ChainMax))
	for i, s := range wrongServers() {
		for _, list := range [][]impl.Block{nil, better, s.Blocks} {
			if got, ok := impl.ServerTurn(s, list); ok || !sameServer(got, impl.Server{}) {
				t.Errorf("ServerTurn of the wrong server %d is %v", i, got)
			}
		}
	}
}
