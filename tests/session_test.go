package tests

import (
	"fmt"
	"slices"
	"strconv"
	"strings"
	"testing"

	"loop.example/cordillera/impl"
)

// toldLine is a line, and what it is told.
type toldLine struct{ line, told string }

// knownSession is the document's example.
func knownSession() []toldLine {
	return []toldLine{
		{"mine 0 5 a b", "ok"},
		{"mine 0 9 b c", "ok"},
		{"mine 0 14", "ok"},
		{"mine 0 18 a", "ok"},
		{"mine 0 21 d", "ok"},
		{"copy 0 3", "ok"},
		{"mine 1 30 x1", "ok"},
		{"work 0", "6"},
		{"tip 0", "752d5cacce6ebaa6"},
		{"root 0", "c77585883560eb7c"},
		{"mark 0", "8c97178c8912858a"},
		{"better 0 1", "ok"},
		{"peer 0 none 0", "ok"},
		{"peer 0 marks 1", "ok"},
		{"peer 0 filter 3", "ok"},
		{"peer 1 none 0", "ok"},
		{"peer 0 heads 2", "ok"},
		{"client a zz", "code 0 heads 5\nbanned 1 4\nout 3\nhit 0 a\nhit 3 a"},
		{"mine 0 21 e", "no"},
		{"mine 5 1", "what"},
		{"peer 0 liar 0", "no"},
		{"work 9", "what"},
		{"what", "what"},
	}
}

// linesOf is the lines of some that are told, and all that they are told.
func linesOf(list []toldLine) ([]string, string) {
	var lines []string
	all := ""
	for _, l := range list {
		lines = append(lines, l.line)
		all += l.told + "\n"
	}
	return lines, all
}

// sameSession holds Session against its model, of all lines, and of each beginning that is asked for.
func sameSession(t *testing.T, lines []string, beginnings ...int) string {
	t.Helper()
	want := modelSession(lines)
	all := impl.Session(lines)
	if all != strings.Join(want, "") {
		t.Fatalf("Session of %q is %q, not %q", lines, all, want)
	}
	for _, many := range beginnings {
		if got := impl.Session(lines[:many]); got != strings.Join(cut(want, 0, many), "") || !strings.HasPrefix(all, got) {
			t.Fatalf("Session of the first %d of %q is %q", many, lines, got)
		}
	}
	return all
}

// toldLast is what a line is told behind others.
func toldLast(t *testing.T, lines []string, line string) string {
	t.Helper()
	ahead, all := impl.Session(lines), impl.Session(append(slices.Clone(lines), line))
	if !strings.HasPrefix(all, ahead) || !strings.HasSuffix(all, "\n") {
		t.Fatalf("%q behind %q: %q does not begin %q", line, lines, ahead, all)
	}
	return strings.TrimSuffix(all[len(ahead):], "\n")
}

// checkTold holds what lines are told, each behind the same ones, against what they must be, and against the model.
func checkTold(t *testing.T, ahead []string, list []toldLine) {
	t.Helper()
	for _, l := range list {
		if got := toldLast(t, ahead, l.line); got != l.told {
			t.Errorf("%q behind %q is told %q, not %q", l.line, ahead, got, l.told)
		}
		sameSession(t, append(slices.Clone(ahead), l.line))
	}
}

func TestP54KnownSession(t *testing.T) {
	known := knownSession()
	lines, all := linesOf(known)
	if got := sameSession(t, lines); got != all {
		t.Errorf("Session is %q, not %q", got, all)
	}
	for i, l := range known {
		if got := toldLast(t, lines[:i], l.line); got != l.told {
			t.Errorf("the line %d, %q, is told %q, not %q", i+1, l.line, got, l.told)
		}
	}
}

func TestP54NoLines(t *testing.T) {
	for _, lines := range [][]string{nil, {}} {
		if got := impl.Session(lines); got != "" {
			t.Errorf("Session of no lines is %q", got)
		}
	}
	if got := impl.Session([]string{""}); got != "what\n" {
		t.Errorf("Session of an empty line is %q", got)
	}
}

// Chain 0 is there, without blocks; no other one is, and no peer.
func TestP54AtFirst(t *testing.T) {
	checkTold(t, nil, []toldLine{
		{"work 0", "0"},
		{"tip 0", noughts},
		{"mark 0", noughts},
		{"root 0", modelSum("range")},
		{"better 0 0", "no"},
		{"client", "code 1 heads 0\nbanned\nout"},
		{"client a", "code 1 heads 0\nbanned\nout"},
		{"copy 0 0", "ok"},
		{"copy 0 1", "no"},
		{"peer 0 none 0", "ok"},
		{"mine 0 0", "ok"},
	})
	checkTold(t, []string{"copy 0 0", "mine 1 4 a", "peer 0 none 0"}, []toldLine{
		{"work 0", "0"},
		{"work 1", "1"},
		{"better 0 1", "no"},
		{"better 1 0", "ok"},
		{"client", "code 0 heads 0\nbanned\nout"},
	})
}

func TestP54Mine(t *testing.T) {
	known, _ := linesOf(knownSession())
	full := "a a b b 00000000 zzzzzzzz"
	checkTold(t, known[:7], []toldLine{
		{"mine 0 22", "ok"},
		{"mine 0 22 a", "ok"},
		{"mine 1 31 " + full, "ok"},
		{"mine 1 31 " + full + " c", "no"},
		{"mine 0 99999 a", "ok"},
		{"mine 0 100000 a", "no"},
		{"mine 0 999999999 a", "no"},
		{"mine 0 21 a", "no"},
		{"mine 0 5 a", "no"},
		{"mine 0 0", "no"},
		{"mine 0 22 ", "no"},
		{"mine 0 22 a ", "no"},
		{"mine 0 22  a", "no"},
		{"mine 0 22 A", "no"},
		{"mine 0 22 abcdefgh", "ok"},
		{"mine 0 22 abcdefghi", "no"},
		{"mine 0 22 a\nb", "no"},
		{"mine 0 22 a\tb", "no"},
		// What is asked of words comes ahead of what is asked of the block.
		{"mine 0 1000000000 a", "what"},
		{"mine 0 022 a", "what"},
		{"mine 00 22 a", "what"},
		{"mine 0 -1", "what"},
		{"mine 0 +22", "what"},
		{"mine 0 22\n", "what"},
		{"mine 0 x a", "what"},
		{"mine 0 a", "what"},
		{"mine 0  22", "what"},
		{"mine  0 22", "what"},
		{"mine 0 ", "what"},
		{"mine 0", "what"},
		{"mine ", "what"},
		{"mine", "what"},
		{"mine 2 40 a", "what"},
		{"mine 4 40 a", "what"},
		{"mine 999999999 40 a", "what"},
		{"mine 4294967296 40 a", "what"},
		{"mine -1 40 a", "what"},
		{"mine x 40 a", "what"},
		{"mine  40 a", "what"},
	})
}

// A chain may have ChainMax blocks, and not one more.
func TestP54MineUpToChainMax(t *testing.T) {
	var lines []string
	for i := range impl.ChainMax {
		lines = append(lines, fmt.Sprintf("mine 0 %d i%d", 70*i, i))
	}
	if got := sameSession(t, lines); got != strings.Repeat("ok\n", impl.ChainMax) {
		t.Errorf("%d lines are told %q", impl.ChainMax, got)
	}
	checkTold(t, lines, []toldLine{
		{"mine 0 99998 a", "no"},
		{"work 0", "20"},
		{"copy 0 20", "ok"},
		{"copy 0 21", "no"},
		{"peer 0 none 19", "ok"},
		{"peer 0 none 20", "no"},
	})
	lines = append(lines, "copy 0 19", "mine 0 99998 a", "mine 1 99998 a", "mine 1 99999 a", "better 0 1", "better 1 0")
	sameSession(t, lines)
}

func TestP54Copy(t *testing.T) {
	known, _ := linesOf(knownSession())
	checkTold(t, known[:7], []toldLine{
		{"copy 0 0", "ok"},
		{"copy 0 5", "ok"},
		{"copy 0 6", "no"},
		{"copy 0 999999999", "no"},
		{"copy 1 4", "ok"},
		{"copy 1 5", "no"},
		{"copy 2 0", "no"},
		{"copy 9 0", "no"},
		{"copy x 0", "no"},
		{"copy -1 0", "no"},
		{"copy 00 0", "no"},
		{"copy  0", "no"},
		{"copy 0 ", "no"},
		{"copy 0 -1", "no"},
		{"copy 0 03", "no"},
		{"copy 0 +3", "no"},
		{"copy 0 x", "no"},
		{"copy 0 3\n", "no"},
		{"copy 0 0000000003", "no"},
		{"copy 0 4294967297", "no"},
		{"copy 0", "what"},
		{"copy", "what"},
		{"copy 0 3 ", "what"},
		{"copy 0 3 3", "what"},
	})
}

// There may be ChainsMax chains, and not one more; what is told no makes no place for another one.
func TestP54CopyUpToChainsMax(t *testing.T) {
	lines := []string{"mine 0 5 a", "mine 0 9 b"}
	for i := range impl.ChainsMax - 1 {
		line := fmt.Sprintf("copy %d 1", i)
		if got := toldLast(t, lines, line); got != "ok" {
			t.Errorf("the copy %d is told %q", i, got)
		}
		lines = append(lines, "copy 9 0", line)
	}
	checkTold(t, lines, []toldLine{
		{"copy 0 0", "no"},
		{"copy 3 1", "no"},
		{"copy 4 0", "no"},
		{"work 3", "1"},
		{"work 4", "what"},
		{"mine 4 7", "what"},
		{"mine 3 7", "ok"},
		{"tip 3", modelHeadSum(headsOf(blockAt(nil, 5, "a"))[0])},
	})
}

// blockAt is a chain of the model with one more block.
func blockAt(list []impl.Block, time int, items ...string) []impl.Block {
	more, _ := modelChainMine(list, time, items)
	return more
}

// A chain and its copy go on apart, whichever grows.
func TestP54CopiesAreApart(t *testing.T) {
	lines := []string{"mine 0 5 a", "mine 0 9 b", "mine 0 14 c", "copy 0 2", "copy 0 2", "copy 1 2"}
	ways := [][]string{nil, nil, nil, nil}
	for _, at := range []int{3, 0, 1, 2, 1, 3, 0, 2, 2} {
		line := fmt.Sprintf("mine %d %d i%d", at, 20+len(lines), at)
		lines = append(lines, line)
		ways[at] = append(ways[at], strings.Replace(line, fmt.Sprint("mine ", at), "mine 0", 1))
	}
	for at, way := range ways {
		ahead := append([]string{"mine 0 5 a", "mine 0 9 b"}, way...)
		if at == 0 {
			ahead = slices.Insert(ahead, 2, "mine 0 14 c")
		}
		for _, ask := range []string{"work", "tip", "root", "mark"} {
			got, want := toldLast(t, lines, fmt.Sprintf("%s %d", ask, at)), toldLast(t, ahead, ask+" 0")
			if got != want {
				t.Errorf("%s of the chain %d is %q, not %q", ask, at, got, want)
			}
		}
	}
	sameSession(t, lines)
}

func TestP54Peer(t *testing.T) {
	known, _ := linesOf(knownSession())
	list := []toldLine{
		{"peer 0 none 19", "ok"},
		{"peer 0 none 20", "no"},
		{"peer 1 short 0", "ok"},
		{"peer 0 liar 0", "no"},
		{"peer 0 None 0", "no"},
		{"peer 0 non 0", "no"},
		{"peer 0  0", "no"},
		{"peer 0 0 0", "no"},
		{"peer 0 filters 0", "no"},
		{"peer 2 none 0", "no"},
		{"peer 9 none 0", "no"},
		{"peer -1 none 0", "no"},
		{"peer x none 0", "no"},
		{"peer 01 none 0", "no"},
		{"peer  none 0", "no"},
		{"peer 0 none -1", "no"},
		{"peer 0 none 00", "no"},
		{"peer 0 none x", "no"},
		{"peer 0 none ", "no"},
		{"peer 0 none 4294967296", "no"},
		{"peer 0 none", "what"},
		{"peer 0", "what"},
		{"peer", "what"},
		{"peer 0 none 0 ", "what"},
		{"peer 0 none 0 0", "what"},
	}
	for _, lie := range []string{"none", "marks", "filter", "mute", "heads", "block", "short"} {
		list = append(list, toldLine{"peer 0 " + lie + " 0", "ok"}, toldLine{"peer 1 " + lie + " 19", "ok"}, toldLine{"peer 2 " + lie + " 0", "no"})
	}
	checkTold(t, known[:7], list)
}

// There may be PeersMax peers, and not one more; what is told no makes no place for another one.
func TestP54PeersUpToPeersMax(t *testing.T) {
	lines := []string{"mine 0 5 a"}
	for i := range impl.PeersMax {
		lines = append(lines, "peer 9 none 0", "peer 0 liar 0", fmt.Sprintf("peer 0 none %d", i))
	}
	if got := sameSession(t, lines); got != "ok\n"+strings.Repeat("no\nno\nok\n", impl.PeersMax) {
		t.Errorf("peers are told %q", got)
	}
	checkTold(t, lines, []toldLine{
		{"peer 0 none 0", "no"},
		{"peer 0 mute 19", "no"},
		{"client a", "code 0 heads 1\nbanned\nout\nhit 0 a"},
	})
}

// Each name is that of its lie: a client finds out what the model does.
func TestP54NamesOfLies(t *testing.T) {
	known, _ := linesOf(knownSession())
	told := map[string]string{
		"none":   "code 0 heads 5\nbanned\nout\nhit 0 a\nhit 3 a",
		"marks":  "code 0 heads 5\nbanned 0\nout\nhit 0 a\nhit 3 a",
		"filter": "code 0 heads 5\nbanned 0\nout\nhit 0 a\nhit 3 a",
		"mute":   "code 0 heads 5\nbanned\nout 0\nhit 0 a\nhit 3 a",
		"heads":  "code 0 heads 5\nbanned 0\nout\nhit 0 a\nhit 3 a",
		"block":  "code 0 heads 5\nbanned 0\nout\nhit 0 a\nhit 3 a",
		"short":  "code 0 heads 5\nbanned\nout 0\nhit 0 a\nhit 3 a",
	}
	for lie, want := range told {
		ahead := append(slices.Clone(known[:7]), "peer 0 "+lie+" 2", "peer 0 none 0")
		checkTold(t, ahead, []toldLine{{"client a zz", want}})
		sameSession(t, append(ahead, "client fake", "client b", "peer 1 "+lie+" 0", "client a", "peer 1 "+lie+" 3", "client x1"))
	}
}

func TestP54Client(t *testing.T) {
	known, _ := linesOf(knownSession())
	wrong := "code 1 heads 0\nbanned\nout"
	found := "code 0 heads 5\nbanned 1 4\nout 3"
	nearly := strings.Repeat(" zz", impl.ListMax-1) + " a"
	checkTold(t, known[:17], []toldLine{
		{"client", found},
		{"client zz", found},
		{"client d b", found + "\nhit 0 b\nhit 1 b\nhit 4 d"},
		{"client a a", found + "\nhit 0 a\nhit 3 a"},
		{"client" + nearly, found + "\nhit 0 a\nhit 3 a"},
		{"client" + nearly + " a", wrong},
		{"client ", wrong},
		{"client a ", wrong},
		{"client  a", wrong},
		{"client A", wrong},
		{"client abcdefghi", wrong},
		{"client a\n", wrong},
		{"client\n", "what"},
		{"clients a", "what"},
	})
	checkTold(t, append(slices.Clone(known[:7]), "peer 0 mute 0"), []toldLine{
		{"client a", "code 2 heads 0\nbanned\nout"},
	})
	checkTold(t, append(slices.Clone(known[:7]), "peer 0 filter 2", "peer 1 none 0"), []toldLine{
		{"client a", "code 2 heads 5\nbanned 0\nout 1"},
	})
	// Nobody is left with the third mark; the heads are still those that were told.
	checkTold(t, append(slices.Clone(known[:7]), "peer 0 block 0", "peer 0 marks 2"), []toldLine{
		{"client a", "code 2 heads 5\nbanned 0 1\nout"},
	})
}

func TestP54AsksOfChains(t *testing.T) {
	known, _ := linesOf(knownSession())
	other := blockAt(goodChain()[:3], 30, "x1")
	marks := modelMarks(other)
	list := []toldLine{
		{"work 1", "4"},
		{"tip 1", modelHeadSum(other[3].Head)},
		{"root 1", rangeRootOf(other)},
		{"mark 1", marks[3]},
		{"better 1 0", "no"},
		{"better 0 0", "no"},
		{"better 1 1", "no"},
		{"better 0 2", "what"},
		{"better 2 0", "what"},
		{"better 2 2", "what"},
		{"better 0", "what"},
		{"better", "what"},
		{"better 0 1 0", "what"},
		{"better 0 1 ", "what"},
		{"better 0  1", "what"},
		{"better 0 01", "what"},
		{"better 00 1", "what"},
	}
	for _, ask := range []string{"work", "tip", "root", "mark"} {
		for _, word := range []string{"2", "3", "4", "9", "20", "-1", "", "x", "00", "01", "+0", "0 ", " 0", "0 0", "0\n", "\t0", "4294967296", "18446744073709551616"} {
			list = append(list, toldLine{ask + " " + word, "what"})
		}
		list = append(list, toldLine{ask, "what"}, toldLine{" " + ask + " 0", "what"}, toldLine{strings.ToUpper(ask) + " 0", "what"}, toldLine{ask + "0", "what"})
	}
	checkTold(t, known[:7], list)
}

func TestP54AllOtherLines(t *testing.T) {
	var list []toldLine
	for _, line := range []string{"", " ", "  ", "what", "ok", "no", "0", "mine\t0 5", "mine\n0 5", "Mine 0 5", " mine 0 5", "mined 0 5", "min 0 5", "sample 0", "tree", "help", "\x00", "\xff", "\u00e9", strings.Repeat("x", 100000), strings.Repeat(" ", 1000)} {
		list = append(list, toldLine{line, "what"})
	}
	checkTold(t, []string{"mine 0 5 a"}, list)
}

func TestP54FirstLinesAreToldFirst(t *testing.T) {
	for seed := range 40 {
		d := &dice{state: uint64(540 + seed)}
		many := []int{5, 20, 40, impl.SessionMax}[seed%4]
		sameSession(t, d.session(many), 0, 1, d.below(many+1), d.below(many+1), many-1)
	}
	known, _ := linesOf(knownSession())
	sameSession(t, known, steps(0, 1, len(known))...)
}

func TestP54LinesBehindSessionMax(t *testing.T) {
	d := &dice{state: 541}
	for _, many := range []int{impl.SessionMax - 1, impl.SessionMax, impl.SessionMax + 1, impl.SessionMax + 30, 1000} {
		lines := d.session(many)
		all := sameSession(t, lines)
		if got := impl.Session(lines[:min(many, impl.SessionMax)]); got != all {
			t.Errorf("of %d lines those behind are told something: %q, not %q", many, all, got)
		}
		whats := impl.Session(slices.Repeat([]string{"what"}, many))
		if got := strings.Count(whats, "what\n"); got != min(many, impl.SessionMax) || len(whats) != got*5 {
			t.Errorf("%d lines are told %q", many, whats)
		}
	}
	// The last line that is told still counts.
	lines := append(slices.Repeat([]string{""}, impl.SessionMax-1), "mine 0 5", "work 0", "mine 0 9")
	if got := impl.Session(lines); got != strings.Repeat("what\n", impl.SessionMax-1)+"ok\n" {
		t.Errorf("the line %d is told %q", impl.SessionMax, got)
	}
}

// A line that is not told ok changes nothing.
func TestP54WhatIsRefusedChangesNothing(t *testing.T) {
	known, _ := linesOf(knownSession())
	all := []string{"work 0", "tip 0", "root 0", "mark 0", "tip 1", "tip 2", "client a b", "copy 1 4", "root 2", "peer 0 none 0", "client d"}
	ahead := known[:16]
	want := strings.TrimPrefix(impl.Session(append(slices.Clone(ahead), all...)), impl.Session(ahead))
	for _, line := range []string{"mine 0 21 e", "mine 0 30 A", "mine 0 30 ", "mine 0 30 a b c d e f g", "mine 0 100000", "mine 2 30", "mine 0 x", "copy 0 6", "copy 2 0", "copy 0 x", "peer 0 liar 0", "peer 2 none 0", "peer 0 none 20", "peer 0 none x", "client A", "better 0 2", "what", ""} {
		with := append(slices.Clone(ahead), line)
		got := strings.TrimPrefix(impl.Session(append(slices.Clone(with), all...)), impl.Session(with))
		if got != want {
			t.Errorf("behind %q lines are told %q, not %q", line, got, want)
		}
	}
}

// A peer has the chain as that was when it came, whatever is made behind it.
func TestP54PeersKeepTheirChain(t *testing.T) {
	lines := []string{"mine 0 5 a", "peer 0 none 0", "mine 0 9 a", "mine 0 14 a"}
	checkTold(t, lines, []toldLine{{"client a", "code 0 heads 1\nbanned\nout\nhit 0 a"}})
	lines = append(lines, "peer 0 none 0", "mine 0 18 a")
	checkTold(t, lines, []toldLine{{"client a", "code 0 heads 3\nbanned\nout 0\nhit 0 a\nhit 1 a\nhit 2 a"}})
}

func TestP55WhoAsksChangesNothing(t *testing.T) {
	ends := []string{"root 0", "client a", "work 0", "tip 0", "root 0"}
	for seed := range 30 {
		d := &dice{state: uint64(550 + seed)}
		ahead := d.session([]int{0, 3, 17, 40, impl.SessionMax - len(ends)}[seed%5])
		told := strings.Split(strings.TrimPrefix(sameSession(t, append(slices.Clone(ahead), ends...)), impl.Session(ahead)), "\n")
		first, last := told[0], told[len(told)-2]
		if first != last || len(first) != 16 {
			t.Fatalf("root 0 is told %q first, and %q last, behind %q", first, last, ahead)
		}
	}
}

// Whatever is asked, and however often, is told the same behind all of it; a client of peers with few tokens, too.
func TestP55AllAsksChangeNothing(t *testing.T) {
	known, _ := linesOf(knownSession())
	asks := []string{"root 0", "client a b", "client", "client A", "work 0", "tip 1", "mark 0", "better 0 1", "better 1 0", "client d", "what", "work 9"}
	for seed := range 12 {
		d := &dice{state: uint64(555 + seed)}
		ahead := known[:17]
		if seed > 0 {
			ahead = d.session(20)
		}
		lines := append(append(slices.Clone(ahead), asks...), asks...)
		got := strings.TrimPrefix(sameSession(t, lines), impl.Session(ahead))
		if first := got[:len(got)/2]; first+first != got {
			t.Fatalf("asks behind %q are told %q", ahead, got)
		}
	}
}

// Sessions keep nothing from one to the next.
func TestP55SessionsAreApart(t *testing.T) {
	known, all := linesOf(knownSession())
	for i := range 5 {
		impl.Session((&dice{state: uint64(i)}).session(30))
		if got := impl.Session(known); got != all {
			t.Fatalf("Session is %q, not %q", got, all)
		}
		if got := impl.Session([]string{"work 0", "client", "work 1"}); got != "0\ncode 1 heads 0\nbanned\nout\nwhat\n" {
			t.Fatalf("a new session has something: %q", got)
		}
	}
}

// Of four chains each is asked by its number.
func TestP55EachChainIsAsked(t *testing.T) {
	lines := []string{"mine 0 5 a", "copy 0 0", "copy 0 1", "mine 2 9 b", "copy 2 2", "mine 3 14", "mine 3 18", "mine 3 20"}
	for at, work := range []int{1, 0, 2, 6} {
		if got := toldLast(t, lines, "work "+strconv.Itoa(at)); got != strconv.Itoa(work) {
			t.Errorf("work of the chain %d is %q, not %d", at, got, work)
		}
	}
	sameSession(t, append(lines, "better 3 2", "better 2 3", "better 1 0", "tip 1", "tip 2", "tip 3", "mark 1", "root 1"))
}
