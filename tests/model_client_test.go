package tests

import (
	"slices"

	"loop.example/cordillera/impl"
)

func modelPeerOk(p impl.Peer) bool {
	return slices.Contains([]int{0, 1, 2, 3, 4, 5, 6}, p.Lie) && slices.Contains(steps(0, 1, 20), p.At) && modelServerOk(p.Server)
}

// modelFalse is the false filter of a block.
func modelFalse(b impl.Block) string {
	return modelOf(modelHeadSum(b.Head), append(slices.Clone(b.Items), "fake"))
}

// told is all that a peer would tell, page by page.
type told struct {
	blocks         []impl.Block
	filters, marks []string
}

// modelTold is what a peer that is not mute tells.
func modelTold(p impl.Peer) told {
	var out told
	mark := noughts
	for at, b := range p.Server.Blocks {
		filter, behind := modelBlockFilter(b), modelBlockFilter(b)
		if at == p.At {
			switch p.Lie {
			case 1:
				filter, behind = modelFalse(b), modelFalse(b)
			case 2:
				filter = modelFalse(b)
			case 4:
				b.Head.Prev = modelSum("fake")
			}
		}
		if p.Lie == 5 {
			b.Items = append(slices.Clone(b.Items), "fake")
		}
		if p.Lie == 6 && at >= p.At {
			break
		}
		mark = modelMark(mark, behind)
		out.blocks, out.filters, out.marks = append(out.blocks, b), append(out.filters, filter), append(out.marks, mark)
	}
	return out
}

// cut is what of a list stands from one place up to another, as far as there is some.
func cut[T any](list []T, from, to int) []T {
	var out []T
	for at, one := range list {
		if at >= from && at < to {
			out = append(out, one)
		}
	}
	return out
}

func modelPeerReply(p impl.Peer, q impl.Ask) (impl.Peer, impl.Reply) {
	if !modelPeerOk(p) {
		return impl.Peer{}, impl.Reply{}
	}
	all := modelTold(p)
	server, reply := modelServerDo(p.Server, 0, q)
	p.Server = server
	switch {
	case !modelAskOk(q):
		return p, impl.Reply{}
	case p.Lie == 3:
		return p, impl.Reply{Kind: 9}
	}
	switch reply.Kind {
	case 1:
		reply.Heads = headsOf(cut(all.blocks, q.From, q.From+q.Num))
	case 2:
		reply.Texts = cut(all.filters, q.From, q.From+q.Num)
	case 3:
		reply.Texts = cut(all.marks, q.From, q.From+q.Num)
	case 4:
		reply.Blocks = cut(all.blocks, q.From, q.From+1)
	}
	return p, reply
}

// modelParty is a peer of the model's client: what it tells, how many tokens are left, how often it was asked. It is in (0), out (1) or banned (2).
type modelParty struct {
	told
	mute          bool
	tokens, asked int
	stand         int
}

// pay asks a question of some cost; each token that is missing takes one more try. It says whether there is an answer.
func (m *modelParty) pay(cost int) bool {
	if m.mute {
		m.asked += 8
		m.stand = 1
		return false
	}
	m.asked += 1 + max(0, cost-m.tokens)
	m.tokens = max(0, m.tokens-cost)
	return true
}

// pages asks for so many pages.
func (m *modelParty) pages(many int) bool {
	for range many {
		if !m.pay(1) {
			return false
		}
	}
	return true
}

type modelParties []*modelParty

// in is those that are in.
func (all modelParties) in() modelParties {
	return slices.DeleteFunc(slices.Clone(all), func(m *modelParty) bool { return m.stand != 0 })
}

// block is the true block at a place, if somebody tells it.
func (all modelParties) block(at int, h impl.Head) (impl.Block, bool) {
	for _, m := range all.in() {
		if !m.pay(2) {
			continue
		}
		if b := m.blocks[at]; b.Head == h && modelBlockOk(b) {
			return b, true
		}
		m.stand = 2
	}
	return impl.Block{}, false
}

// heads is the best heads; nobody but those that told them is in behind that.
func (all modelParties) heads() ([]impl.Head, bool) {
	for _, m := range all {
		if m.pages(len(m.blocks)/6+1) && modelCheck(headsOf(m.blocks)) != 0 {
			m.stand = 2
		}
	}
	in := all.in()
	for _, m := range in {
		best := headsOf(m.blocks)
		if slices.ContainsFunc(in, func(o *modelParty) bool { return modelBetter(headsOf(o.blocks), best) }) {
			continue
		}
		for _, o := range in {
			if !slices.Equal(headsOf(o.blocks), best) {
				o.stand = 1
			}
		}
		return best, true
	}
	return nil, false
}

// theirMarks is the marks on which those that are in agree, in the end; fewer than heads, if nobody is left.
func (all modelParties) theirMarks(heads []impl.Head) []string {
	for _, m := range all.in() {
		m.pages((len(heads) + 5) / 6)
	}
	var marks []string
	for at, h := range heads {
		seen := map[string]int{}
		for _, m := range all.in() {
			seen[m.marks[at]]++
		}
		if len(seen) > 1 {
			b, ok := all.block(at, h)
			if !ok {
				return marks
			}
			mark := modelMark(append([]string{noughts}, marks...)[at], modelBlockFilter(b))
			for _, m := range all.in() {
				if m.marks[at] != mark {
					m.stand = 2
				}
			}
		}
		if len(all.in()) == 0 {
			return marks
		}
		marks = append(marks, all.in()[0].marks[at])
	}
	return marks
}

// theirFilters is filters that come to the marks, if somebody tells them.
func (all modelParties) theirFilters(marks []string) ([]string, bool) {
	for _, m := range all.in() {
		m.pages((len(marks) + 5) / 6)
		mark := noughts
		for at, filter := range m.filters {
			mark = modelMark(mark, filter)
			if mark != marks[at] {
				m.stand = 2
				break
			}
		}
		if m.stand == 0 {
			return m.filters, true
		}
	}
	return nil, false
}

// theirHits is the items that are found, if all blocks are told.
func (all modelParties) theirHits(heads []impl.Head, filters []string, watch []string) ([]impl.Hit, bool) {
	var hits []impl.Hit
	for at, h := range heads {
		if !modelAny(filters[at], modelHeadSum(h), watch) {
			continue
		}
		b, ok := all.block(at, h)
		if !ok {
			return nil, false
		}
		for _, item := range b.Items {
			if slices.Contains(watch, item) {
				hits = append(hits, impl.Hit{At: at, Item: item})
			}
		}
	}
	return hits, true
}

// questions is how often somebody was asked.
func (all modelParties) questions() int {
	many := 0
	for _, m := range all {
		many += m.asked
	}
	return many
}

// end fills in how often somebody was asked, and who is out.
func (all modelParties) end(r impl.Result) impl.Result {
	r.Asked = all.questions()
	for at, m := range all {
		switch m.stand {
		case 1:
			r.Out = append(r.Out, at)
		case 2:
			r.Banned = append(r.Banned, at)
		}
	}
	return r
}

func modelClient(peers []impl.Peer, watch []string) impl.Result {
	wrong := slices.ContainsFunc(peers, func(p impl.Peer) bool { return !modelPeerOk(p) })
	if len(peers) < 1 || len(peers) > 5 || wrong || !modelAreItems(watch) {
		return impl.Result{Code: 1}
	}
	var all modelParties
	for _, p := range peers {
		all = append(all, &modelParty{told: modelTold(p), mute: p.Lie == 3, tokens: p.Server.Tokens[0]})
	}
	heads, ok := all.heads()
	if !ok {
		return impl.Result{Code: 2, Asked: all.questions()}
	}
	r := impl.Result{Code: 2, Heads: heads, Marks: all.theirMarks(heads)}
	if len(r.Marks) < len(heads) {
		return all.end(r)
	}
	filters, ok := all.theirFilters(r.Marks)
	if !ok {
		return all.end(r)
	}
	if hits, ok := all.theirHits(heads, filters, watch); ok {
		r.Code, r.Hits = 0, hits
	}
	return all.end(r)
}

func samePeer(a, b impl.Peer) bool {
	return a.Lie == b.Lie && a.At == b.At && sameServer(a.Server, b.Server)
}

func sameResult(a, b impl.Result) bool {
	return a.Code == b.Code && a.Asked == b.Asked && slices.Equal(a.Heads, b.Heads) && slices.Equal(a.Marks, b.Marks) &&
		slices.Equal(a.Hits, b.Hits) && slices.Equal(a.Banned, b.Banned) && slices.Equal(a.Out, b.Out)
}
