package tests

import (
	"math"
	"strings"
	"testing"

	"loop.example/cordillera/impl"
)

// wrongSums is texts that are no sums, most of them by one byte.
func wrongSums() []string {
	const sum = "0123456789abcdef"
	out := []string{"", "0", sum[:15], sum + "0", sum + sum, " " + sum[:15], sum[:15] + "\n", strings.ToUpper(sum), "key", "0x23456789abcdef", "-123456789abcdef"}
	for i := range sum {
		for _, b := range []string{"A", "F", "g", "/", ":", "`", "@", " ", "\x00", "\xff"} {
			out = append(out, sum[:i]+b+sum[i+1:])
		}
	}
	return append(out, "\u0660"+sum[2:], strings.Repeat("\u00e9", 8))
}

func TestP1SumIsTheOneTheWorldKnows(t *testing.T) {
	known := [][2]string{
		{"", "e3b0c44298fc1c14"},
		{"abc", "ba7816bf8f01cfea"},
		{"abcdbcdecdefdefgefghfghighijhijkijkljklmklmnlmnomnopnopq", "248d6a61d20638b8"},
		{strings.Repeat("a", 1000000), "cdc76e5c9914fb92"},
	}
	for _, k := range known {
		if got := impl.SumOf(k[0]); got != k[1] {
			t.Errorf("SumOf of %d bytes is %q, not %q", len(k[0]), got, k[1])
		}
	}
}

func TestP1SumOfEachSize(t *testing.T) {
	d := &dice{state: 1}
	text := d.text(300)
	for long := range len(text) + 1 {
		s := text[:long]
		got := impl.SumOf(s)
		if got != modelSum(s) || !modelIsSum(got) {
			t.Fatalf("SumOf of %d bytes is %q, not %q", long, got, modelSum(s))
		}
		for _, b := range []string{"\x00", "\x80", "a"} {
			if impl.SumOf(s+b) == got {
				t.Fatalf("SumOf of %d bytes is the same with %q behind", long, b)
			}
		}
	}
	for _, long := range []int{8191, 8192, 1<<21 - 1, 1 << 21} {
		s := d.text(long)
		if impl.SumOf(s) != modelSum(s) {
			t.Errorf("SumOf of %d bytes", long)
		}
	}
}

func TestP1SumOfEachByte(t *testing.T) {
	seen := map[string]int{}
	for b := range 256 {
		s := string([]byte{byte(b)})
		if impl.SumOf(s) != modelSum(s) {
			t.Errorf("SumOf of the byte %d is %q", b, impl.SumOf(s))
		}
		seen[impl.SumOf(s)]++
	}
	if len(seen) != 256 {
		t.Errorf("256 texts have %d sums", len(seen))
	}
}

func TestP2HeadIsANumberOf31Bits(t *testing.T) {
	known := map[string]int{
		"ffffffff00000000": 2147483647,
		"ffffffffffffffff": 2147483647,
		"fffffffeffffffff": 2147483647,
		"fffffffd00000000": 2147483646,
		"80000000ffffffff": 1073741824,
		"0000000000000000": 0,
		"00000001ffffffff": 0,
		"0000000200000000": 1,
		"0000000300000000": 1,
		"0123456789abcdef": 0x01234567 / 2,
		"89abcdef01234567": 0x89abcdef / 2,
	}
	for s, want := range known {
		if got := impl.SumHead(s); got != want {
			t.Errorf("SumHead of %q is %d, not %d", s, got, want)
		}
	}
	for i := range 500 {
		s := impl.SumOf(strings.Repeat("x", i))
		n := impl.SumHead(s)
		if n != modelHead(s) || n < 0 || n > 2147483647 || n != impl.SumHead(s[:8]+"00000000") || n != impl.SumHead(s[:8]+"ffffffff") {
			t.Errorf("SumHead of %q is %d", s, n)
		}
	}
}

func TestP2HeadOfNoSum(t *testing.T) {
	for _, s := range wrongSums() {
		if got := impl.SumHead(s); got != -1 {
			t.Errorf("SumHead of %q is %d", s, got)
		}
	}
}

// varEdges is numbers at which one more byte is needed, and their neighbours.
func varEdges() []int {
	out := []int{0, 1, 2, 300, 2147483646, 2147483647}
	for _, n := range []int{1 << 7, 1 << 14, 1 << 21, 1 << 28, 1 << 30} {
		out = append(out, n-1, n, n+1)
	}
	return out
}

func TestP3NumberIsReadBack(t *testing.T) {
	d := &dice{state: 3}
	nums := varEdges()
	for range 2000 {
		nums = append(nums, d.below(1<<(1+d.below(31))))
	}
	for _, n := range nums {
		s := impl.VarPut(n)
		if s != modelVarPut(n) || len(s) < 1 || len(s) > 5 {
			t.Fatalf("VarPut of %d is %q", n, s)
		}
		for _, behind := range []string{"", "\x00", "\x01", "\x7f", "\x80", "\xff\xff\xff\xff\xff", d.text(9)} {
			if got, many := impl.VarGet(s + behind); got != n || many != len(s) {
				t.Fatalf("VarGet of %q is %d and %d", s+behind, got, many)
			}
		}
	}
}

func TestP3NumberTakesAsFewBytesAsCanBe(t *testing.T) {
	sizes := map[int]int{0: 1, 127: 1, 128: 2, 16383: 2, 16384: 3, 2097151: 3, 2097152: 4, 268435455: 4, 268435456: 5, 2147483647: 5}
	for n, want := range sizes {
		if got := len(impl.VarPut(n)); got != want {
			t.Errorf("VarPut of %d has %d bytes, not %d", n, got, want)
		}
	}
	for _, n := range []int{-1, -128, math.MinInt, 2147483648, 4294967296, 4294967297, math.MaxInt} {
		if got := impl.VarPut(n); got != "" {
			t.Errorf("VarPut of %d is %q", n, got)
		}
	}
}

// sameVar holds VarGet against its model, and against VarPut.
func sameVar(t *testing.T, s string) {
	t.Helper()
	n, many := impl.VarGet(s)
	wantN, wantMany := modelVarGet(s)
	if n != wantN || many != wantMany {
		t.Fatalf("VarGet of %q is %d and %d, not %d and %d", s, n, many, wantN, wantMany)
	}
	if many > 0 && impl.VarPut(n) != s[:many] {
		t.Fatalf("VarGet of %q is %d, which is not written so", s, n)
	}
}

func TestP4WhatIsReadIsWrittenSo(t *testing.T) {
	sameVar(t, "")
	for a := range 256 {
		sameVar(t, string([]byte{byte(a)}))
		for b := range 256 {
			sameVar(t, string([]byte{byte(a), byte(b)}))
		}
	}
	ends := []byte{0, 1, 7, 8, 15, 16, 127, 128, 129, 135, 255}
	for _, fill := range []byte{128, 129, 255} {
		ahead := []byte{}
		for range 7 {
			for _, end := range ends {
				sameVar(t, string(ahead)+string([]byte{end}))
				sameVar(t, string(ahead)+string([]byte{end})+"\x01")
			}
			ahead = append(ahead, fill)
		}
	}
	d := &dice{state: 4}
	for range 5000 {
		sameVar(t, d.text(d.below(8)))
	}
}

func TestP4NoNumber(t *testing.T) {
	bad := []string{
		"", "\x80", "\xff\xff", "\x80\x80\x80\x80\x80",
		"\x80\x00", "\xff\x00", "\x81\x80\x00", "\x80\x80\x80\x80\x00", "\x80\x00\x01",
		"\x80\x80\x80\x80\x08", "\xff\xff\xff\xff\x08", "\xff\xff\xff\xff\x0f", "\xff\xff\xff\xff\x17", "\x80\x80\x80\x80\x10", "\xff\xff\xff\xff\x7f",
		"\xff\xff\xff\xff\xff\x01", "\x80\x80\x80\x80\x80\x01", "\x81\x80\x80\x80\x80\x00", strings.Repeat("\x80", 100) + "\x01",
	}
	for _, s := range bad {
		if n, many := impl.VarGet(s); n != 0 || many != 0 {
			t.Errorf("VarGet of %q is %d and %d", s, n, many)
		}
	}
}
