package tests

import (
	"fmt"
	"reflect"
	"slices"
	"strings"
	"testing"
	"unsafe"

	"loop.example/cordillera/impl"
)

// memory is where a list with its spare room, or a text, lies.
type memory struct {
	what     string
	from, to uintptr
	text     bool
}

// memoriesOf is where all that a value has lies, what is in spare room included.
func memoriesOf(what string, v reflect.Value) []memory {
	var out []memory
	switch v.Kind() {
	case reflect.String:
		from := uintptr(unsafe.Pointer(unsafe.StringData(v.String())))
		out = append(out, memory{what, from, from + uintptr(v.Len()), true})
	case reflect.Slice:
		out = append(out, memory{what, v.Pointer(), v.Pointer() + uintptr(v.Cap())*v.Type().Elem().Size(), false})
		for i := range v.Cap() {
			out = append(out, memoriesOf(fmt.Sprintf("%s[%d]", what, i), v.Slice(0, v.Cap()).Index(i))...)
		}
	case reflect.Struct:
		for i := range v.NumField() {
			out = append(out, memoriesOf(what+"."+v.Type().Field(i).Name, v.Field(i))...)
		}
	}
	return out
}

// allMemories is where all that some values have lies.
func allMemories(values []any) []memory {
	var out []memory
	for _, v := range values {
		out = append(out, memoriesOf(fmt.Sprintf("%T", v), reflect.ValueOf(v))...)
	}
	return out
}

func meet(a, b memory) bool {
	return a.from < b.to && b.from < a.to
}

// checkApart says that an answer shares no memory with arguments, nor one of its lists with another one.
func checkApart(t *testing.T, what string, answer []any, arguments []any) {
	t.Helper()
	mine, given := allMemories(answer), allMemories(arguments)
	for i, m := range mine {
		for _, g := range given {
			if meet(m, g) {
				t.Fatalf("%s: %s of the answer lies in %s of an argument", what, m.what, g.what)
			}
		}
		for _, other := range mine[:i] {
			if !m.text && !other.text && meet(m, other) {
				t.Fatalf("%s: %s and %s of the answer share memory", what, m.what, other.what)
			}
		}
	}
}

// deepServer is a server with lists and texts of its own.
func deepServer(s impl.Server) impl.Server {
	out := impl.Server{Blocks: deepBlocks(s.Blocks), Tokens: slices.Clone(s.Tokens), Cache: slices.Clone(s.Cache)}
	for i := range out.Cache {
		out.Cache[i].Text = strings.Clone(out.Cache[i].Text)
	}
	return out
}

// guardedServer is a server with marks behind the end of each list, and a check that none of it changed.
func guardedServer(t *testing.T, s impl.Server) (impl.Server, func(what string)) {
	s = deepServer(s)
	blocks, blocksCheck := guardedBlocks(t, s.Blocks)
	tokens, tokensCheck := guarded(t, -77, s.Tokens...)
	cache, cacheCheck := guarded(t, impl.Cached{At: -77, Text: "mark"}, s.Cache...)
	return impl.Server{Blocks: blocks, Tokens: tokens, Cache: cache}, func(what string) {
		t.Helper()
		blocksCheck(what)
		tokensCheck(what)
		cacheCheck(what)
	}
}

// serverCall is a call of a function of servers: what it answers.
type serverCall struct {
	what string
	call func(s impl.Server, list []impl.Block) []any
}

// serverCalls is a call of each kind, right and wrong ones.
func serverCalls() []serverCall {
	out := []serverCall{
		{"ServerOk", func(s impl.Server, _ []impl.Block) []any { return []any{impl.ServerOk(s)} }},
		{"ServerNew", func(_ impl.Server, list []impl.Block) []any { return []any{impl.ServerNew(list)} }},
		{"ServerTick", func(s impl.Server, _ []impl.Block) []any { return []any{impl.ServerTick(s)} }},
		{"ServerTurn", func(s impl.Server, list []impl.Block) []any { return pair(impl.ServerTurn(s, list)) }},
		{"ServerTurn to its own", func(s impl.Server, _ []impl.Block) []any { return pair(impl.ServerTurn(s, s.Blocks)) }},
	}
	for _, q := range append(asked(), impl.Ask{}, impl.Ask{Kind: impl.AskFilters, Num: impl.PageMax}, impl.Ask{Kind: impl.AskFilters, From: impl.ChainMax, Num: 1}) {
		out = append(out, serverCall{fmt.Sprint("ReplyOf ", q), func(_ impl.Server, list []impl.Block) []any { return []any{impl.ReplyOf(list, q)} }})
		for _, peer := range []int{-1, 0, 1, 2, impl.PeerMax} {
			out = append(out, serverCall{fmt.Sprint("ServerDo ", peer, q), func(s impl.Server, _ []impl.Block) []any { return pair(impl.ServerDo(s, peer, q)) }})
		}
	}
	return out
}

func pair[A, B any](a A, b B) []any {
	return []any{a, b}
}

// serverCase is a server, and blocks to which it may turn.
type serverCase struct {
	server impl.Server
	list   []impl.Block
}

func serverCases() []serverCase {
	d := &dice{state: 99}
	full := d.chain(nil, steps(0, 1, impl.ChainMax))
	out := []serverCase{
		{goodServer(), d.behind(goodServer().Blocks[:2], 9)},
		{impl.Server{Blocks: full, Tokens: []int{3, 0, 8}, Cache: d.cache(full, 4)}, full[:9]},
	}
	lists := append(wrongChains()[:3], nil, full, goodChain())
	for i, s := range append(goodServers()[:6], wrongServers()[:20]...) {
		out = append(out, serverCase{s, lists[i%len(lists)]})
	}
	return out
}

func TestNothingIsWrittenIntoServers(t *testing.T) {
	for _, one := range serverCases() {
		server, check := guardedServer(t, one.server)
		blocks, blocksCheck := guardedBlocks(t, one.list)
		for _, c := range serverCalls() {
			c.call(server, blocks)
			check(c.what)
			blocksCheck(c.what)
		}
	}
}

func TestServersAndRepliesAreNewMemory(t *testing.T) {
	for _, one := range serverCases() {
		server, blocks := deepServer(one.server), deepBlocks(one.list)
		for _, c := range serverCalls() {
			checkApart(t, c.what, c.call(server, blocks), []any{server, blocks})
		}
	}
}

// Blocks may share their items, and lists their texts, when they come in; no two lists that come out do.
func TestServersShareNoList(t *testing.T) {
	same := []string{"a", "b", "c"}
	var list []impl.Block
	for i := range 6 {
		list, _ = modelChainMine(list, i*7, same)
		list[i].Items = same
	}
	server := impl.Server{Blocks: list, Tokens: []int{8, 0, 5}, Cache: cachedOf(list, 1, 5)}
	longer, _ := modelChainMine(list, 50, same)
	for _, c := range serverCalls() {
		checkApart(t, c.what, c.call(server, longer), []any{server.Cache, server.Tokens, same, list, longer})
	}
}

// Texts of an argument are overwritten behind the call; the answer is as it was.
func TestServersShareNoText(t *testing.T) {
	for _, c := range serverCalls() {
		var gone []func()
		loose := func(s *string) {
			text, drop := looseText(*s)
			*s = text
			gone = append(gone, drop)
		}
		server := goodServer()
		list := (&dice{state: 990}).behind(server.Blocks[:4], 7)
		want := fmt.Sprintf("%#v", c.call(server, list))
		own, blocks := deepServer(server), deepBlocks(list)
		for _, b := range append(slices.Clone(own.Blocks), blocks...) {
			for i := range b.Items {
				loose(&b.Items[i])
			}
		}
		for i := range own.Blocks {
			loose(&own.Blocks[i].Head.Prev)
			loose(&own.Blocks[i].Head.Root)
		}
		for i := range blocks {
			loose(&blocks[i].Head.Prev)
			loose(&blocks[i].Head.Root)
		}
		for i := range own.Cache {
			loose(&own.Cache[i].Text)
		}
		answer := c.call(own, blocks)
		for _, drop := range gone {
			drop()
		}
		if got := fmt.Sprintf("%#v", answer); got != want {
			t.Errorf("%s: the answer changed with an argument: %s, not %s", c.what, got, want)
		}
	}
}

func TestServersKeepNothingBetweenCalls(t *testing.T) {
	server := goodServer()
	list := (&dice{state: 991}).behind(server.Blocks[:4], 7)
	first := map[string]string{}
	for _, c := range serverCalls() {
		first[c.what] = fmt.Sprintf("%#v", c.call(server, list))
	}
	for _, c := range slices.Backward(serverCalls()) {
		if got := fmt.Sprintf("%#v", c.call(server, list)); got != first[c.what] {
			t.Errorf("%s hangs on the calls ahead: %s, not %s", c.what, got, first[c.what])
		}
	}
}
