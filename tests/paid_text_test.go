package tests

import (
	"math"
	"slices"
	"strconv"
	"strings"
	"testing"

	"loop.example/cordillera/impl"
)

// samePaidPut holds PaidPut against its model.
func samePaidPut(t *testing.T, p impl.Paid) string {
	t.Helper()
	got, want := impl.PaidPut(p), modelPaidPut(p)
	if got != want {
		t.Fatalf("PaidPut of %v is %q, not %q", p, got, want)
	}
	return got
}

// samePaidGet holds PaidGet against its model, and against PaidPut.
func samePaidGet(t *testing.T, s string) (impl.Paid, bool) {
	t.Helper()
	p, ok := impl.PaidGet(s)
	if want, wantOk := modelPaidGet(s); !samePaid(p, want) || ok != wantOk {
		t.Fatalf("PaidGet of %q is %v and %t, not %v and %t", s, p, ok, want, wantOk)
	}
	if ok && impl.PaidPut(p) != s {
		t.Fatalf("PaidGet of %q is %v, which is not written so", s, p)
	}
	return p, ok
}

// checkReadBack says that a proof is written, and read back from that.
func checkReadBack(t *testing.T, p impl.Paid) {
	t.Helper()
	s := samePaidPut(t, p)
	if got, ok := samePaidGet(t, s); s == "" || !ok || !samePaid(got, p) {
		t.Fatalf("PaidGet of %q is %v and %t, not %v", s, got, ok, p)
	}
}

// checkNotWritten says that a proof is not written, as what is wrong in it says.
func checkNotWritten(t *testing.T, what string, p impl.Paid) {
	t.Helper()
	if s := samePaidPut(t, p); s != "" {
		t.Errorf("PaidPut of a proof with %s is %q", what, s)
	}
}

func TestP51KnownTexts(t *testing.T) {
	h := impl.Head{Prev: noughts, Root: "e3b0c44298fc1c14", Time: 7, Diff: 1, Nonce: 12}
	peak := func(sum string, work, count int) impl.Peak { return impl.Peak{Sum: sum, Work: work, Count: count} }
	a, b, c := "aaaaaaaaaaaaaaaa", "bbbbbbbbbbbbbbbb", "cccccccccccccccc"
	first := noughts + " e3b0c44298fc1c14 7 1 12\n"
	known := map[string]impl.Paid{
		"0 " + first + "peaks\nsteps\nsides":                        {Head: h},
		"19 " + first + "peaks " + a + ":1:1\nsteps\nsides":         {At: 19, Head: h, Proof: impl.Proof{Peaks: []impl.Peak{peak(a, 1, 1)}}},
		"1 " + first + "peaks\nsteps " + b + ":160:20\nsides":       {At: 1, Head: h, Proof: impl.Proof{Steps: []impl.Peak{peak(b, 160, 20)}}},
		"1 " + first + "peaks\nsteps\nsides l" + a + " r" + b:       {At: 1, Head: h, Sides: []impl.Side{{Sum: a, Left: true}, {Sum: b}}},
		"1 " + first + "peaks\nsteps\nsides r" + c + " l" + noughts: {At: 1, Head: h, Sides: []impl.Side{{Sum: c}, {Sum: noughts, Left: true}}},
		"10 " + first + "peaks " + a + ":128:16 " + b + ":32:4\nsteps " + c + ":3:3 " + c + ":3:3\nsides r" + a: {
			At: 10, Head: h, Proof: impl.Proof{Peaks: []impl.Peak{peak(a, 128, 16), peak(b, 32, 4)}, Steps: []impl.Peak{peak(c, 3, 3), peak(c, 3, 3)}}, Sides: []impl.Side{{Sum: a}},
		},
	}
	for s, p := range known {
		if got := impl.PaidPut(p); got != s {
			t.Errorf("PaidPut of %v is %q, not %q", p, got, s)
		}
		if got, ok := impl.PaidGet(s); !ok || !samePaid(got, p) {
			t.Errorf("PaidGet of %q is %v and %t, not %v", s, got, ok, p)
		}
	}
}

func TestP51ProofsOfChainsAreReadBack(t *testing.T) {
	for _, list := range paidChains() {
		root := rangeRootOf(list)
		eachPaid(list, func(at, i int, p impl.Paid) {
			checkReadBack(t, impl.PaidOf(list, at, i))
			read, _ := impl.PaidGet(impl.PaidPut(p))
			if !impl.PaidCheck(root, list[at].Items[i], read) {
				t.Fatalf("PaidCheck of what is read back of %v is false", p)
			}
		})
	}
}

// Each limit is met exactly.
func TestP51AllProofsAreReadBack(t *testing.T) {
	d := &dice{state: 51}
	for many := range impl.ChainMax + 1 {
		for at := range impl.ChainMax {
			checkReadBack(t, d.paid(at, many, d.below(impl.SideMax+1), d.below(impl.SideMax+1)))
		}
		for side := range impl.SideMax + 1 {
			checkReadBack(t, d.paid(0, many, side, impl.SideMax))
			checkReadBack(t, d.paid(0, many, impl.SideMax, side))
		}
	}
	for _, h := range edgeHeads() {
		p := d.paid(3, 3, 2, 1)
		p.Head = h
		checkReadBack(t, p)
	}
	for count := 1; count <= impl.ChainMax; count++ {
		p := d.paid(19, 20, 8, 8)
		for i, work := range []int{count, 8 * count, count + 1} {
			p.Proof.Steps[3*i].Work, p.Proof.Steps[3*i].Count = work, count
			checkReadBack(t, p)
		}
	}
	p := d.paid(0, 7, 3, 3)
	p.Proof.Steps = slices.Repeat(p.Proof.Peaks[:1], impl.SideMax)
	p.Sides = slices.Repeat(p.Sides[:1], impl.SideMax)
	checkReadBack(t, p)
	checkReadBack(t, impl.Paid{Head: goodHead(), Proof: impl.Proof{Peaks: []impl.Peak{}, Steps: []impl.Peak{}}, Sides: []impl.Side{}})
}

func TestP51WrongPlacesAndHeads(t *testing.T) {
	d := &dice{state: 510}
	for _, at := range append(beyond(0, impl.ChainMax-1), impl.ChainMax) {
		checkNotWritten(t, "a wrong place", d.paid(at, 5, 2, 1))
		checkNotWritten(t, "a wrong place", impl.Paid{At: at, Head: goodHead()})
	}
	for _, h := range wrongHeads() {
		p := d.paid(1, 5, 2, 1)
		p.Head = h
		checkNotWritten(t, "a wrong head", p)
		checkNotWritten(t, "a wrong head", impl.Paid{Head: h})
	}
	checkNotWritten(t, "nothing", impl.Paid{})
}

func TestP51WrongPeaksStepsAndSides(t *testing.T) {
	d := &dice{state: 511}
	for _, list := range wrongRanges() {
		p := d.paid(1, 5, 2, 1)
		p.Proof.Peaks = list
		checkNotWritten(t, "wrong peaks", p)
	}
	for _, peak := range wrongPeaks() {
		p := d.paid(1, 5, 3, 1)
		for i := range p.Proof.Steps {
			other := p
			other.Proof.Steps = slices.Replace(slices.Clone(p.Proof.Steps), i, i+1, peak)
			checkNotWritten(t, "a wrong step", other)
		}
		checkNotWritten(t, "a wrong step", impl.Paid{Head: goodHead(), Proof: impl.Proof{Steps: []impl.Peak{peak}}})
	}
	for _, sum := range append(wrongSums(), "l"+noughts, "r"+noughts, "\n"+noughts, noughts+" r"+noughts) {
		p := d.paid(1, 5, 2, 3)
		for i := range p.Sides {
			for _, left := range []bool{true, false} {
				other := p
				other.Sides = slices.Replace(slices.Clone(p.Sides), i, i+1, impl.Side{Sum: sum, Left: left})
				checkNotWritten(t, "a wrong side", other)
			}
		}
	}
}

func TestP51TooMany(t *testing.T) {
	d := &dice{state: 512}
	for _, many := range []int{impl.SideMax + 1, impl.SideMax + 2, 1000} {
		checkNotWritten(t, "too many steps", d.paid(0, 5, many, 0))
		checkNotWritten(t, "too many steps", d.paid(0, 5, many, impl.SideMax))
		checkNotWritten(t, "too many sides", d.paid(0, 5, 0, many))
		checkNotWritten(t, "too many sides", d.paid(0, 5, impl.SideMax, many))
	}
	checkNotWritten(t, "too many heads", impl.Paid{Head: goodHead(), Proof: impl.Proof{Peaks: []impl.Peak{d.peak(16), d.peak(4), d.peak(1)}}})
}

func TestP52WhatIsReadIsWrittenSo(t *testing.T) {
	d := &dice{state: 52}
	proofs := []impl.Paid{{Head: goodHead()}, modelPaid(goodChain(), 1, 1), d.paid(19, 20, 8, 8), d.paid(10, 7, 1, 1)}
	parts := []string{"0", "1", "9", "a", "g", "l", "r", ":", " ", "+", "-", "_", ".", "\n", "\r", "\x00", "\xff"}
	for _, p := range proofs {
		s := modelPaidPut(p)
		for at := range len(s) + 1 {
			samePaidGet(t, s[:at])
			samePaidGet(t, s[at:])
			for _, more := range parts {
				samePaidGet(t, s[:at]+more+s[at:])
				if at < len(s) {
					samePaidGet(t, s[:at]+more+s[at+1:])
				}
			}
			if at < len(s) {
				samePaidGet(t, s[:at]+s[at+1:])
			}
		}
	}
}

// Each wrong word stands at each place of a line of a proof that is right but for it.
func TestP52WrongWords(t *testing.T) {
	sum := "0123456789abcdef"
	for _, word := range []string{
		"", sum, sum + ":1", sum + ":1:1:1", sum + ":1:", sum + "::1", ":1:1", sum + ":1:1 ", " " + sum + ":1:1", sum + ":01:1", sum + ":1:01", sum + ":+1:1", sum + ":1:+1",
		sum + ":0:1", sum + ":1:0", sum + ":9:1", sum + ":-1:1", sum + ":1:-1", sum + ":x:1", sum + ":1:x", sum + ":1 :1", sum + " 1 1", sum + ":1:21", sum + ":21:21",
		sum + ":18446744073709551617:1", sum + ":1:18446744073709551617", sum + ":1_0:2", sum + ":0x8:8", sum + ":1\n:1", sum[1:] + ":1:1", "A" + sum[1:] + ":1:1", sum + ":1:3", sum + ":3:2",
		"l", "r", "l" + sum, "r" + sum, "L" + sum, "R" + sum, "m" + sum, "ll" + sum, "lr" + sum, "rl" + sum, "l" + sum + "0", "r" + sum[1:], "l:" + sum, "l " + sum, "lA" + sum[1:], "-" + sum, "\t" + "l" + sum,
	} {
		for line := 1; line <= 3; line++ {
			lines := strings.Split(modelPaidPut((&dice{state: 520}).paid(1, 6, 2, 2)), "\n")
			words := strings.Split(lines[line], " ")
			for place := range len(words) + 1 {
				own := slices.Clone(lines)
				own[line] = strings.Join(slices.Insert(slices.Clone(words), place, word), " ")
				samePaidGet(t, strings.Join(own, "\n"))
				own[line] = strings.Join(append(slices.Clone(words[:place]), word), " ")
				samePaidGet(t, strings.Join(own, "\n"))
			}
		}
	}
}

func TestP52WrongLines(t *testing.T) {
	d := &dice{state: 521}
	s := modelPaidPut(d.paid(1, 6, 2, 2))
	lines := strings.Split(s, "\n")
	head := strings.TrimPrefix(lines[0], "1 ")
	rest := "\n" + strings.Join(lines[1:], "\n")
	bad := []string{
		"", "\n", "\n\n\n", "\n\n\n\n", " ", "peaks", "peaks\nsteps\nsides", s + "\n", "\n" + s, s + "\n\n", s + " ", " " + s, s + "\x00", s + "\n" + s, s + s, strings.ReplaceAll(s, "\n", "\r\n"),
		strings.ReplaceAll(s, "\n", " "), strings.ToUpper(s), strings.Repeat("\n", 100000), "0 " + strings.Repeat(" ", 100000) + rest, s + strings.Repeat(" ", 100000),
		head + rest, "1" + rest, "1 " + rest, " " + head + rest, "1  " + head + rest, "1\t" + head + rest, "1 " + head + " " + rest, "1 1 " + head + rest,
	}
	for _, at := range []string{"-1", "20", "21", "99", "01", "00", "+1", "-0", "1.0", "0x1", "1_0", "x", "", "18446744073709551617", "\u0661"} {
		bad = append(bad, at+" "+head+rest)
	}
	for _, h := range wrongHeads() {
		bad = append(bad, "1 "+strings.Join([]string{h.Prev, h.Root, strconv.Itoa(h.Time), strconv.Itoa(h.Diff), strconv.Itoa(h.Nonce)}, " ")+rest)
	}
	for i := range lines {
		bad = append(bad, strings.Join(slices.Delete(slices.Clone(lines), i, i+1), "\n"))
		bad = append(bad, strings.Join(slices.Insert(slices.Clone(lines), i, lines[i]), "\n"))
		bad = append(bad, strings.Join(slices.Insert(slices.Clone(lines), i, ""), "\n"))
		other := slices.Clone(lines)
		other[i], other[(i+1)%4] = other[(i+1)%4], other[i]
		bad = append(bad, strings.Join(other, "\n"))
	}
	for _, name := range []string{"peaks", "steps", "sides"} {
		for _, wrong := range []string{"", name[:4], name + "s", strings.ToUpper(name), " " + name, name + " ", name + ":"} {
			bad = append(bad, strings.Replace(s, name, wrong, 1))
		}
	}
	for _, s := range bad {
		if p, ok := samePaidGet(t, s); ok || !samePaid(p, impl.Paid{}) {
			t.Errorf("PaidGet of %q is %v and %t", s, p, ok)
		}
	}
}

// A text whose lists are one too long, or no range, is refused as a whole.
func TestP52TooMany(t *testing.T) {
	d := &dice{state: 522}
	lines := strings.Split(modelPaidPut(d.paid(1, 6, impl.SideMax, impl.SideMax)), "\n")
	more := []string{"", "", " 0123456789abcdef:1:1", " r0123456789abcdef"}
	for i := 2; i <= 3; i++ {
		own := slices.Clone(lines)
		own[i] += more[i]
		if p, ok := samePaidGet(t, strings.Join(own, "\n")); ok || !samePaid(p, impl.Paid{}) {
			t.Errorf("PaidGet with more %s is %v", more[i], p)
		}
	}
	for _, list := range wrongRanges() {
		text := "peaks"
		for _, p := range list {
			text += " " + strings.Join([]string{p.Sum, strconv.Itoa(p.Work), strconv.Itoa(p.Count)}, ":")
		}
		if p, ok := samePaidGet(t, lines[0]+"\n"+text+"\nsteps\nsides"); ok {
			t.Errorf("PaidGet of %q is %v", text, p)
		}
	}
	for _, n := range []int{math.MinInt, -1, 0, 9, math.MaxInt} {
		if p, ok := samePaidGet(t, lines[0]+"\npeaks\nsteps 0123456789abcdef:"+strconv.Itoa(n)+":1\nsides"); ok {
			t.Errorf("PaidGet of a step with the work %d is %v", n, p)
		}
	}
}
