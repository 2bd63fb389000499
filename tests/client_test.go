package tests

import (
	"slices"
	"testing"

	"loop.example/cordillera/impl"
)

// tellsAll says whether a peer does not lie, and has these heads.
func tellsAll(p impl.Peer, heads []impl.Head) bool {
	return p.Lie == impl.LieNone && slices.Equal(headsOf(p.Server.Blocks), heads)
}

// allHits is all items of a chain that are among watch.
func allHits(list []impl.Block, watch []string) []impl.Hit {
	var out []impl.Hit
	for at, b := range list {
		for _, item := range b.Items {
			if slices.Contains(watch, item) {
				out = append(out, impl.Hit{At: at, Item: item})
			}
		}
	}
	return out
}

// sameClient holds ClientRun against its model.
func sameClient(t *testing.T, peers []impl.Peer, watch []string) impl.Result {
	t.Helper()
	got, want := impl.ClientRun(peers, watch), modelClient(peers, watch)
	if !sameResult(got, want) {
		for i, p := range peers {
			t.Logf("peer %d: %d blocks, the lie %d at %d, tokens %d", i, len(p.Server.Blocks), p.Lie, p.At, p.Server.Tokens)
		}
		t.Fatalf("ClientRun for %q is %v, not %v", watch, got, want)
	}
	return got
}

// checkTruth says what promises 43 and 46 do: with one that tells the truth a client ends with it, and finds out who tells other marks.
func checkTruth(t *testing.T, peers []impl.Peer, watch []string, r impl.Result) {
	t.Helper()
	at := slices.IndexFunc(peers, func(p impl.Peer) bool { return tellsAll(p, r.Heads) })
	if at < 0 {
		return
	}
	list := peers[at].Server.Blocks
	if r.Code != impl.ClientFine || !slices.Equal(r.Marks, impl.ChainMarks(list)) || !slices.Equal(r.Hits, allHits(list, watch)) {
		t.Fatalf("with one that tells the truth a client ends with %v", r)
	}
	for i, p := range peers {
		same := slices.Equal(headsOf(p.Server.Blocks), r.Heads) && p.At < len(r.Heads)
		if same && p.Lie == impl.LieMarks && !slices.Contains(p.Server.Blocks[p.At].Items, "fake") && !slices.Contains(r.Banned, i) {
			t.Fatalf("the peer %d tells false marks, and is not found out: %d", i, r.Banned)
		}
	}
}

// checkBanned says what promise 44 does, and that both lists are of peers.
func checkBanned(t *testing.T, peers []impl.Peer, r impl.Result) {
	t.Helper()
	seen := make([]int, len(peers))
	for _, list := range [][]int{r.Banned, r.Out} {
		for i, at := range list {
			if at < 0 || at >= len(peers) || i > 0 && at <= list[i-1] {
				t.Fatalf("places are %d", list)
			}
			seen[at]++
		}
	}
	if slices.Max(seen) > 1 {
		t.Fatalf("both banned and out: %d, %d", r.Banned, r.Out)
	}
	for _, at := range r.Banned {
		if peers[at].Lie == impl.LieNone {
			t.Fatalf("the peer %d tells the truth, and is banned", at)
		}
	}
}

// checkHeads says what promise 45 does.
func checkHeads(t *testing.T, peers []impl.Peer, r impl.Result) {
	t.Helper()
	from := func(p impl.Peer) bool {
		return p.Lie != impl.LieMute && slices.Equal(headsOf(modelTold(p).blocks), r.Heads)
	}
	if impl.ChainCheck(r.Heads) != 0 || len(r.Heads) > 0 && !slices.ContainsFunc(peers, from) {
		t.Fatalf("nobody told these heads: %v", r.Heads)
	}
	for i, p := range peers {
		if p.Lie == impl.LieNone && impl.ChainBetter(headsOf(p.Server.Blocks), r.Heads) {
			t.Fatalf("the peer %d tells the truth, and has better heads", i)
		}
	}
	if len(r.Marks) > len(r.Heads) || r.Code == impl.ClientFine && len(r.Marks) != len(r.Heads) {
		t.Fatalf("of %d heads %d marks are held for true", len(r.Heads), len(r.Marks))
	}
}

// checkOneMore says what promise 47 does, wherever the one more stands.
func checkOneMore(t *testing.T, d *dice, peers []impl.Peer, watch []string, r impl.Result) {
	t.Helper()
	for i, p := range peers {
		if p.Lie != impl.LieNone || len(peers) == impl.PeersMax {
			continue
		}
		for _, place := range []int{len(peers), d.below(len(peers) + 1)} {
			got := impl.ClientRun(slices.Insert(slices.Clone(peers), place, p), watch)
			if got.Code != r.Code || !slices.Equal(got.Heads, r.Heads) || !slices.Equal(got.Marks, r.Marks) || !slices.Equal(got.Hits, r.Hits) {
				t.Fatalf("with the peer %d once more at %d a client ends with %v, not %v", i, place, got, r)
			}
		}
	}
}

// checkClient holds a client of peers that are ok against the model, and against promises 43 to 46.
func checkClient(t *testing.T, peers []impl.Peer, watch []string) impl.Result {
	t.Helper()
	r := sameClient(t, peers, watch)
	checkTruth(t, peers, watch, r)
	checkBanned(t, peers, r)
	checkHeads(t, peers, r)
	return r
}

// family is a chain, its beginning, one that parts from it, and one behind it.
func (d *dice) family(many int) [][]impl.Block {
	list := d.chain(nil, d.times(many))
	part := d.below(many + 1)
	return [][]impl.Block{list, list[:part], d.behind(list[:part], min(1+d.below(many-part+1), impl.ChainMax-part)), d.behind(list, min(d.below(2), impl.ChainMax-many))}
}

// peer is a peer of one of some chains, most often of the first.
func (d *dice) peer(chains [][]impl.Block, lies []int) impl.Peer {
	list := chains[max(0, d.below(len(chains)+3)-3)]
	p := impl.Peer{Server: d.server(list), Lie: lies[d.below(len(lies))], At: d.below(impl.ChainMax)}
	if d.below(4) > 0 && len(list) > 0 {
		p.At = d.below(len(list))
	}
	return p
}

// peers is so many of them.
func (d *dice) peers(chains [][]impl.Block, lies []int, many int) []impl.Peer {
	var out []impl.Peer
	for range many {
		out = append(out, d.peer(chains, lies))
	}
	return out
}

// watch is items of a chain, and others.
func (d *dice) watch(list []impl.Block) []string {
	out := d.items(d.below(6))
	for _, b := range list {
		for _, item := range b.Items {
			if d.below(4) == 0 && len(out) < impl.ListMax {
				out = append(out, item)
			}
		}
	}
	return out
}

// lengths is chains whose ends are at, or one beside, each end of a page.
func lengths() []int {
	return []int{1, 3, 5, 6, 7, 12, 18, impl.ChainMax}
}

func TestP43OneTellsTheTruth(t *testing.T) {
	d := &dice{state: 43}
	hits := 0
	for _, many := range lengths() {
		list := d.chain(nil, d.times(many))
		for range 8 {
			peers := d.peers([][]impl.Block{list}, allLies(), 1+d.below(impl.PeersMax-1))
			peers = slices.Insert(peers, d.below(len(peers)+1), impl.Peer{Server: d.server(list)})
			watch := d.watch(list)
			r := checkClient(t, peers, watch)
			if !slices.Equal(r.Heads, headsOf(list)) || r.Code != impl.ClientFine {
				t.Fatalf("with one that tells the truth a client ends with %v", r)
			}
			hits += len(r.Hits)
		}
	}
	if hits < 100 {
		t.Errorf("only %d items were found", hits)
	}
}

// Each way to lie stands at each place beside one that tells the truth, and both together with another one.
func TestP43EachLieBesideTheTruth(t *testing.T) {
	d := &dice{state: 430}
	list := d.chain(nil, d.times(7))
	watch := []string{"zzz"}
	for _, b := range list {
		watch = append(watch, b.Items...)
	}
	for _, first := range allLies() {
		for _, second := range allLies() {
			for place := range 3 {
				peers := []impl.Peer{peerOf(list, first, d.below(8)), peerOf(list, second, d.below(8))}
				r := checkClient(t, slices.Insert(peers, place, peerOf(list, impl.LieNone, d.below(8))), watch)
				if r.Code != impl.ClientFine || len(r.Heads) != 7 || !slices.Equal(r.Hits, allHits(list, watch)) {
					t.Fatalf("the lies %d and %d beside the truth end with %v", first, second, r)
				}
			}
		}
	}
}

// goodPeers is the peers of the document's example of a session.
func goodPeers() []impl.Peer {
	list := goodChain()
	other, _ := modelChainMine(list[:3], 30, []string{"x1"})
	return []impl.Peer{peerOf(list, impl.LieNone, 0), peerOf(list, impl.LieMarks, 1), peerOf(list, impl.LieFilter, 3), peerOf(other, impl.LieNone, 0), peerOf(list, impl.LieHeads, 2)}
}

func TestP43KnownClient(t *testing.T) {
	list := goodChain()
	r := checkClient(t, goodPeers(), []string{"a", "zz"})
	// Heads of five, marks of three and a block, filters of one and two blocks, at the last of which it was busy once.
	want := impl.Result{Asked: 13, Heads: headsOf(list), Marks: impl.ChainMarks(list), Hits: []impl.Hit{{At: 0, Item: "a"}, {At: 3, Item: "a"}}, Banned: []int{1, 4}, Out: []int{3}}
	if !sameResult(r, want) || r.Marks[4] != "8c97178c8912858a" {
		t.Errorf("the client ends with %v, not %v", r, want)
	}
}

// Items of a block are found in its order, each as often as it is there, however watch has them.
func TestP43HitsAreInOrder(t *testing.T) {
	list, _ := modelChainMine(nil, 1, []string{"d", "a", "d", "b", "a", "c"})
	list, _ = modelChainMine(list, 2, nil)
	list, _ = modelChainMine(list, 3, []string{"c", "b"})
	for _, watch := range [][]string{{"a", "b", "d"}, {"d", "b", "a"}, {"b", "a", "b", "d", "d", "zzz"}} {
		r := checkClient(t, []impl.Peer{peerOf(list, impl.LieNone, 0)}, watch)
		want := []impl.Hit{{At: 0, Item: "d"}, {At: 0, Item: "a"}, {At: 0, Item: "d"}, {At: 0, Item: "b"}, {At: 0, Item: "a"}, {At: 2, Item: "b"}}
		if !slices.Equal(r.Hits, want) {
			t.Errorf("for %q are found %v, not %v", watch, r.Hits, want)
		}
	}
	for _, watch := range [][]string{nil, {}, {"zzz"}, {"fake"}} {
		if r := checkClient(t, []impl.Peer{peerOf(list, impl.LieNone, 0)}, watch); r.Code != impl.ClientFine || len(r.Hits) != 0 {
			t.Errorf("for %q are found %v", watch, r)
		}
	}
}

// A filter that tells of an item that is not there makes the block asked for, and nothing found.
func TestP43AnItemThatIsNotThere(t *testing.T) {
	list := goodChain()
	key, filter := impl.HeadSum(list[1].Head), impl.BlockFilter(list[1])
	others := numbered(400)
	at := slices.IndexFunc(others, func(item string) bool { return modelHas(filter, key, item) })
	watch := others[at : at+1]
	blocks := 0
	for _, b := range list {
		if modelAny(modelBlockFilter(b), modelHeadSum(b.Head), watch) {
			blocks++
		}
	}
	if r := checkClient(t, []impl.Peer{peerOf(list, impl.LieNone, 0)}, watch); r.Asked != 3+blocks || len(r.Hits) != 0 || r.Code != impl.ClientFine {
		t.Errorf("a block that may have %q is asked for: %v", watch, r)
	}
	if r := checkClient(t, []impl.Peer{peerOf(list, impl.LieBlock, 0)}, watch); r.Code != impl.ClientNobody || !slices.Equal(r.Banned, []int{0}) {
		t.Errorf("a block that may have %q is not told: %v", watch, r)
	}
}

// Who tells a false block is found to lie just if it is asked for one.
func TestP43FalseBlocks(t *testing.T) {
	list := goodChain()
	watch, want := []string{"d"}, []impl.Hit{{At: 4, Item: "d"}}
	for many := 1; many < impl.PeersMax; many++ {
		liars := slices.Repeat([]impl.Peer{peerOf(list, impl.LieBlock, 0)}, many)
		places := steps(0, 1, many)
		truth := []impl.Peer{peerOf(list, impl.LieNone, 0)}
		if r := checkClient(t, slices.Concat(liars, truth), watch); !slices.Equal(r.Banned, places) || !slices.Equal(r.Hits, want) {
			t.Errorf("%d false blocks end with %v", many, r)
		}
		if r := checkClient(t, slices.Concat(truth, liars), watch); len(r.Banned) != 0 || !slices.Equal(r.Hits, want) {
			t.Errorf("%d false blocks that nobody asks for end with %v", many, r)
		}
		r := checkClient(t, liars, watch)
		if r.Code != impl.ClientNobody || len(r.Hits) != 0 || !slices.Equal(r.Banned, places) || !slices.Equal(r.Marks, impl.ChainMarks(list)) {
			t.Errorf("%d false blocks alone end with %v", many, r)
		}
		if r := checkClient(t, liars, nil); r.Code != impl.ClientFine || len(r.Banned) != 0 {
			t.Errorf("%d that are asked for no block end with %v", many, r)
		}
	}
}

// One alone is believed, as far as what it tells fits together.
func TestP43OneAloneIsBelieved(t *testing.T) {
	list := goodChain()
	for at := range list {
		r := checkClient(t, []impl.Peer{peerOf(list, impl.LieMarks, at)}, []string{"a"})
		want := answered(list, impl.LieMarks, at, impl.Ask{Kind: impl.AskMarks, Num: impl.PageMax}).Texts
		if r.Code != impl.ClientFine || !slices.Equal(r.Marks, want) || !slices.Equal(r.Hits, allHits(list, []string{"a"})) {
			t.Errorf("false marks from %d on, alone, end with %v", at, r)
		}
		r = checkClient(t, []impl.Peer{peerOf(list, impl.LieFilter, at)}, []string{"a"})
		if r.Code != impl.ClientNobody || !slices.Equal(r.Marks, impl.ChainMarks(list)) || len(r.Hits) != 0 || !slices.Equal(r.Banned, []int{0}) || r.Asked != 3 {
			t.Errorf("a false filter at %d, alone, ends with %v", at, r)
		}
		r = checkClient(t, []impl.Peer{peerOf(list, impl.LieShort, at)}, []string{"a"})
		if r.Code != impl.ClientFine || !slices.Equal(r.Heads, headsOf(list[:at])) || !slices.Equal(r.Marks, impl.ChainMarks(list[:at])) {
			t.Errorf("the first %d blocks, alone, end with %v", at, r)
		}
	}
}

// Peers without blocks tell a chain, which has no heads.
func TestP43NoBlocks(t *testing.T) {
	for _, lie := range []int{impl.LieNone, impl.LieMarks, impl.LieFilter, impl.LieHeads, impl.LieBlock, impl.LieShort} {
		r := checkClient(t, []impl.Peer{peerOf(nil, lie, 0), peerOf([]impl.Block{}, impl.LieNone, 3)}, []string{"a"})
		if !sameResult(r, impl.Result{Asked: 2}) {
			t.Errorf("the lie %d without blocks ends with %v", lie, r)
		}
	}
	r := checkClient(t, []impl.Peer{peerOf(nil, impl.LieNone, 0), peerOf(goodChain(), impl.LieNone, 0)}, nil)
	if len(r.Heads) != 5 || !slices.Equal(r.Out, []int{0}) {
		t.Errorf("no blocks and some end with %v", r)
	}
}

func TestP44WhoHasAnotherChainDoesNotLie(t *testing.T) {
	d := &dice{state: 44}
	list := d.chain(nil, steps(0, 5, 9))
	others := [][]impl.Block{nil, list[:1], list[:8], d.behind(list[:7], 1), d.chain(nil, steps(3, 90, 6))}
	for _, other := range others {
		peers := []impl.Peer{peerOf(other, impl.LieNone, 0), peerOf(list, impl.LieNone, 0), peerOf(list, impl.LieShort, 4), peerOf(other, impl.LieBlock, 0)}
		r := checkClient(t, peers, []string{"a"})
		if r.Code != impl.ClientFine || len(r.Heads) != 9 || len(r.Banned) != 0 || !slices.Equal(r.Out, []int{0, 2, 3}) {
			t.Errorf("another chain of %d blocks ends with %v", len(other), r)
		}
	}
}

// Two chains of the same work are told in both orders; the same is taken.
func TestP44TheSameWork(t *testing.T) {
	d := &dice{state: 440}
	ahead := d.chain(nil, steps(0, 5, 5))
	for range 6 {
		one, other := d.behind(ahead, 2), d.behind(ahead, 2)
		best := one
		if modelBetter(headsOf(other), headsOf(one)) {
			best = other
		}
		for _, lists := range [][][]impl.Block{{one, other}, {other, one}, {one, other, one}, {other, one, one}} {
			var peers []impl.Peer
			for _, list := range lists {
				peers = append(peers, peerOf(list, impl.LieNone, 0))
			}
			if r := checkClient(t, peers, nil); !slices.Equal(r.Heads, headsOf(best)) || len(r.Banned) != 0 || r.Code != impl.ClientFine {
				t.Fatalf("two chains of the same work end with %v", r)
			}
		}
	}
}

func TestP44WhoTellsTheTruthIsNeverFoundToLie(t *testing.T) {
	d := &dice{state: 441}
	banned, out := 0, 0
	for _, many := range lengths() {
		for range 3 {
			chains := d.family(many)
			for range 5 {
				peers := d.peers(chains, append(allLies(), impl.LieNone, impl.LieNone), 2+d.below(impl.PeersMax-1))
				r := checkClient(t, peers, d.watch(chains[0]))
				banned += len(r.Banned)
				out += len(r.Out)
			}
		}
	}
	if banned < 30 || out < 30 {
		t.Errorf("only %d are banned, and %d out", banned, out)
	}
}

// Heads that are no chain are a lie, wherever the false one stands; behind the end there is none.
func TestP45FalseHeads(t *testing.T) {
	list := (&dice{state: 45}).chain(nil, steps(0, 4, 13))
	for at := range impl.ChainMax {
		r := checkClient(t, []impl.Peer{peerOf(list, impl.LieHeads, at), peerOf(list[:12], impl.LieNone, 0)}, nil)
		if at < len(list) && (len(r.Heads) != 12 || !slices.Equal(r.Banned, []int{0}) || len(r.Out) != 0) {
			t.Errorf("a false head at %d ends with %v", at, r)
		}
		if at >= len(list) && (len(r.Heads) != 13 || len(r.Banned) != 0 || !slices.Equal(r.Out, []int{1})) {
			t.Errorf("a false head at %d, behind the end, ends with %v", at, r)
		}
	}
}

// Only liars are asked; what is held for true is a chain that one of them told.
func TestP45AmongLiarsAlone(t *testing.T) {
	d := &dice{state: 450}
	codes := map[int]int{}
	left := 0
	for _, many := range lengths() {
		for range 2 {
			chains := d.family(many)
			for range 8 {
				r := checkClient(t, d.peers(chains, allLies()[1:], 1+d.below(4)), d.watch(chains[0]))
				codes[r.Code]++
				if r.Code == impl.ClientNobody {
					left += len(r.Marks)
				}
			}
		}
	}
	if len(codes) != 2 || codes[0] < 20 || codes[2] < 20 || left < 20 {
		t.Errorf("codes are %v, with nobody %d marks are left", codes, left)
	}
}

// Who tells a block may be found to lie by it; if nobody is left, there are the marks ahead.
func TestP45NobodyIsLeftWithAMark(t *testing.T) {
	list := (&dice{state: 451}).chain(nil, steps(0, 4, 8))
	marks := impl.ChainMarks(list)
	for at := range list {
		peers := []impl.Peer{peerOf(list, impl.LieBlock, 0), peerOf(list, impl.LieMarks, at), peerOf(list, impl.LieMarks, at)}
		r := checkClient(t, peers, nil)
		if r.Code != impl.ClientNobody || !slices.Equal(r.Banned, []int{0, 1, 2}) || !slices.Equal(r.Marks, marks[:at]) || len(r.Heads) != 8 {
			t.Errorf("a false block, and marks that are false from %d on, end with %v", at, r)
		}
		if at == 7 {
			continue
		}
		peers[2].At = 7
		r = checkClient(t, peers, nil)
		if r.Code != impl.ClientFine || !slices.Equal(r.Banned, []int{0, 1}) || !slices.Equal(r.Marks[:7], marks[:7]) || r.Marks[7] == marks[7] {
			t.Errorf("the last one, whose marks are false at the end, ends with %v", r)
		}
	}
}

func TestP46FalseMarksAreFoundOut(t *testing.T) {
	d := &dice{state: 46}
	for _, many := range lengths() {
		list := d.chain(nil, d.times(many))
		for at := range many {
			peers := []impl.Peer{peerOf(list, impl.LieMarks, at), peerOf(list, impl.LieNone, 0), peerOf(list, impl.LieMarks, d.below(many)), peerOf(list, impl.LieBlock, 0), peerOf(list, impl.LieMarks, impl.ChainMax-1)}
			if many == impl.ChainMax {
				peers = peers[:4]
			}
			r := checkClient(t, peers, nil)
			if len(r.Banned) < 2 || r.Banned[0] != 0 || r.Banned[1] != 2 || slices.Contains(r.Banned, 4) || len(r.Out) != 0 {
				t.Fatalf("marks that are false from %d on, of %d, end with %v", at, many, r)
			}
		}
	}
}

// Two that tell the same false marks are more than the one that tells the truth.
func TestP46ManyTellTheSameFalseMarks(t *testing.T) {
	list := goodChain()
	for at := range list {
		for place := range impl.PeersMax {
			peers := slices.Repeat([]impl.Peer{peerOf(list, impl.LieMarks, at)}, impl.PeersMax)
			peers[place] = peerOf(list, impl.LieNone, 0)
			r := checkClient(t, peers, []string{"b"})
			if len(r.Banned) != 4 || slices.Contains(r.Banned, place) || !slices.Equal(r.Hits, []impl.Hit{{At: 0, Item: "b"}, {At: 1, Item: "b"}}) {
				t.Fatalf("four that tell false marks from %d on end with %v", at, r)
			}
		}
	}
}

// A block that has the false item has no false filter; nobody lies there.
func TestP46MarksThatAreNotFalse(t *testing.T) {
	list, _ := modelChainMine(goodChain(), 40, []string{"fake", "a"})
	r := checkClient(t, []impl.Peer{peerOf(list, impl.LieMarks, 5), peerOf(list, impl.LieFilter, 5), peerOf(list, impl.LieNone, 0)}, []string{"fake"})
	if len(r.Banned) != 0 || !slices.Equal(r.Hits, []impl.Hit{{At: 5, Item: "fake"}}) {
		t.Errorf("marks that are true end with %v", r)
	}
}

// Filters are asked for one by one, until they fit.
func TestP46FiltersUntilTheyFit(t *testing.T) {
	list := goodChain()
	for many := range impl.PeersMax {
		peers := slices.Repeat([]impl.Peer{peerOf(list, impl.LieFilter, 4)}, many)
		peers = append(peers, peerOf(list, impl.LieNone, 0))
		r := checkClient(t, peers, nil)
		if !slices.Equal(r.Banned, steps(0, 1, many)) || r.Asked != 3*(many+1) {
			t.Errorf("%d false filters ahead end with %v", many, r)
		}
		slices.Reverse(peers)
		if r := checkClient(t, peers, nil); len(r.Banned) != 0 || r.Asked != 2*(many+1)+1 {
			t.Errorf("%d false filters that nobody asks for end with %v", many, r)
		}
	}
}

func TestP47OneMoreThatTellsTheTruth(t *testing.T) {
	d := &dice{state: 47}
	many := 0
	for _, length := range lengths() {
		for range 3 {
			chains := d.family(length)
			for range 3 {
				peers := d.peers(chains, append(allLies(), impl.LieNone, impl.LieNone, impl.LieNone), 1+d.below(4))
				watch := d.watch(chains[0])
				r := impl.ClientRun(peers, watch)
				checkOneMore(t, d, peers, watch, r)
				if slices.ContainsFunc(peers, func(p impl.Peer) bool { return p.Lie == impl.LieNone }) {
					many++
				}
			}
		}
	}
	if many < 30 {
		t.Errorf("only %d had one that tells the truth", many)
	}
}
