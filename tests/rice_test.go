package tests

import (
	"math"
	"slices"
	"strings"
	"testing"

	"loop.example/cordillera/impl"
)

// samePut holds RicePut against its model, and RiceGet against RicePut.
func samePut(t *testing.T, list []int, bits int) {
	t.Helper()
	s := impl.RicePut(list, bits)
	if s != modelRicePut(list, bits) {
		t.Fatalf("RicePut of %d with %d is %q", list, bits, s)
	}
	got, ok := impl.RiceGet(s, len(list), bits)
	if len(s) > impl.BytesMax {
		if ok || len(got) != 0 {
			t.Fatalf("RiceGet reads %d bytes", len(s))
		}
	} else if !ok || !slices.Equal(got, list) {
		t.Fatalf("RiceGet of %q, %d numbers with %d, is %d and %t, not %d", s, len(list), bits, got, ok, list)
	}
}

func TestP5NumbersAreReadBack(t *testing.T) {
	d := &dice{state: 5}
	for bits := range 9 {
		samePut(t, nil, bits)
		samePut(t, []int{}, bits)
		for n := range 600 {
			samePut(t, []int{n}, bits)
		}
		for many := 1; many <= impl.ListMax; many++ {
			samePut(t, make([]int, many), bits)
			list := []int{}
			for range many {
				list = append(list, d.below(1<<(bits+1+d.below(3))))
			}
			samePut(t, list, bits)
		}
	}
}

func TestP5NumbersAsGreatAsCanBe(t *testing.T) {
	for bits := range 9 {
		samePut(t, []int{impl.RiceMax}, bits)
		samePut(t, []int{impl.RiceMax - 1, 0, impl.RiceMax}, bits)
	}
	samePut(t, slices.Repeat([]int{impl.RiceMax}, impl.ListMax), 8)
	samePut(t, slices.Repeat([]int{impl.RiceMax}, impl.ListMax), 0)
}

func TestP5KnownBits(t *testing.T) {
	known := []struct {
		list []int
		bits int
		want string
	}{
		{nil, 0, ""},
		{[]int{5, 0, 9}, 2, "\x91\x90"},
		{[]int{3}, 0, "\xe0"},
		{[]int{7}, 0, "\xfe"},
		{[]int{8}, 0, "\xff\x00"},
		{[]int{3}, 8, "\x01\x80"},
		{[]int{0}, 0, "\x00"},
		{[]int{0, 0, 0, 0, 0, 0, 0, 0}, 0, "\x00"},
		{[]int{0, 0, 0, 0, 0, 0, 0, 0, 0}, 0, "\x00\x00"},
		{[]int{127}, 7, "\x7f"},
		{[]int{128}, 7, "\x80\x00"},
		{[]int{256}, 8, "\x80\x00"},
		{[]int{31, 32}, 5, "\x7e\x00"},
	}
	for _, k := range known {
		if got := impl.RicePut(k.list, k.bits); got != k.want {
			t.Errorf("RicePut of %d with %d is %q, not %q", k.list, k.bits, got, k.want)
		}
		samePut(t, k.list, k.bits)
	}
}

func TestP5WhatIsNotWritten(t *testing.T) {
	for bits := range 9 {
		for _, n := range []int{-1, math.MinInt, impl.RiceMax + 1, math.MaxInt} {
			for _, list := range [][]int{{n}, {n, 1, 2}, {1, n, 2}, {1, 2, n}} {
				if s := impl.RicePut(list, bits); s != "" {
					t.Errorf("RicePut of %d with %d has %d bytes", list, bits, len(s))
				}
			}
		}
		if s := impl.RicePut(make([]int, impl.ListMax), bits); s == "" {
			t.Errorf("RicePut of ListMax numbers with %d", bits)
		}
		if s := impl.RicePut(make([]int, impl.ListMax+1), bits); s != "" {
			t.Errorf("RicePut of one more than ListMax with %d is %q", bits, s)
		}
	}
	for _, bits := range []int{-1, -8, 9, 64, math.MinInt, math.MaxInt} {
		if s := impl.RicePut([]int{1, 2}, bits); s != "" {
			t.Errorf("RicePut with %d is %q", bits, s)
		}
	}
}

// sameGet holds RiceGet against its model, and against RicePut.
func sameGet(t *testing.T, s string, many int, bits int) {
	t.Helper()
	list, ok := impl.RiceGet(s, many, bits)
	want, wantOk := modelRiceGet(s, many, bits)
	if ok != wantOk || !slices.Equal(list, want) {
		t.Fatalf("RiceGet of %q, %d numbers with %d, is %d and %t, not %d and %t", s, many, bits, list, ok, want, wantOk)
	}
	if ok && impl.RicePut(list, bits) != s {
		t.Fatalf("RiceGet of %q is %d, which is not written so", s, list)
	}
}

func TestP6WhatIsReadIsWrittenSo(t *testing.T) {
	for bits := range 9 {
		for many := range 18 {
			sameGet(t, "", many, bits)
			for a := range 256 {
				sameGet(t, string([]byte{byte(a)}), many, bits)
			}
			for a := many; a < 65536; a += 7 {
				sameGet(t, string([]byte{byte(a >> 8), byte(a)}), many, bits)
			}
		}
	}
	d := &dice{state: 6}
	for range 5000 {
		sameGet(t, d.text(d.below(20)), d.below(impl.ListMax+1), d.below(9))
	}
}

func TestP6AByteLessOrMore(t *testing.T) {
	d := &dice{state: 66}
	for bits := range 9 {
		for many := range impl.ListMax + 1 {
			list := []int{}
			for range many {
				list = append(list, d.below(1<<(bits+2)))
			}
			s := impl.RicePut(list, bits)
			wrong := []string{s + "\x00", s + "\x00\x00", s + "\x01", s + "\x80"}
			if s != "" {
				wrong = append(wrong, s[:len(s)-1], s[:len(s)/2])
			}
			for _, w := range wrong {
				if got, ok := impl.RiceGet(w, many, bits); ok || len(got) != 0 {
					t.Fatalf("RiceGet of %q, %d numbers with %d, is %d and %t", w, many, bits, got, ok)
				}
			}
		}
	}
}

func TestP6BitsBehindTheLast(t *testing.T) {
	for bits := range 9 {
		s := modelRaw([]int{1}, bits)
		used := 1>>bits + 1 + bits
		for i := used; i < len(s)*8; i++ {
			b := []byte(s)
			b[i/8] |= 128 >> (i % 8)
			if list, ok := impl.RiceGet(string(b), 1, bits); ok || len(list) != 0 {
				t.Errorf("RiceGet of %q with %d is %d", b, bits, list)
			}
		}
	}
}

func TestP6OneNumberLess(t *testing.T) {
	for bits := 1; bits <= 8; bits++ {
		for many := 1; many <= impl.ListMax; many++ {
			s := impl.RicePut(slices.Repeat([]int{1<<bits + 1}, many), bits)
			for _, wrong := range []int{many - 1, many + 8} {
				if list, ok := impl.RiceGet(s, wrong, bits); ok || len(list) != 0 {
					t.Fatalf("RiceGet of %q, of %d numbers, reads %d", s, many, wrong)
				}
			}
		}
	}
}

func TestP6Limits(t *testing.T) {
	full := modelRaw([]int{4799}, 0)
	if list, ok := impl.RiceGet(full, 1, 0); len(full) != impl.BytesMax || !ok || !slices.Equal(list, []int{4799}) {
		t.Errorf("RiceGet of %d bytes is %d and %t", len(full), list, ok)
	}
	even := modelRaw(slices.Repeat([]int{119}, impl.ListMax), 0)
	if list, ok := impl.RiceGet(even, impl.ListMax, 0); len(even) != impl.BytesMax || !ok || len(list) != impl.ListMax {
		t.Errorf("RiceGet of %d bytes is %d and %t", len(even), list, ok)
	}
	wrong := []struct {
		s    string
		many int
		bits int
	}{
		{modelRaw([]int{4800}, 0), 1, 0},
		{modelRaw([]int{impl.RiceMax + 1}, 8), 1, 8},
		{modelRaw([]int{1, impl.RiceMax + 1}, 7), 2, 7},
		{modelRaw([]int{100000}, 8), 1, 8},
		{modelRaw(make([]int, impl.ListMax+1), 0), impl.ListMax + 1, 0},
		{modelRaw(make([]int, impl.ListMax+1), 5), impl.ListMax + 1, 5},
		{modelRaw([]int{1}, 9), 1, 9},
		{"", 0, 9}, {"", 0, -1}, {"", -1, 0}, {"\x00", -1, 0}, {"\x00", 0, 0},
		{"\x00", 1, -1}, {"\x00", 1, math.MinInt}, {"\x00", 1, math.MaxInt},
		{"\x00", math.MinInt, 0}, {"\x00", math.MaxInt, 0}, {"", 1, 0}, {"", impl.ListMax, 8},
		{strings.Repeat("\xff", impl.BytesMax), 1, 0},
		{strings.Repeat("\x00", impl.BytesMax), impl.ListMax, 0},
		{strings.Repeat("\x00", 100000), 1, 8},
	}
	for _, w := range wrong {
		if list, ok := impl.RiceGet(w.s, w.many, w.bits); ok || len(list) != 0 {
			t.Errorf("RiceGet of %d bytes, %d numbers with %d, is %d and %t", len(w.s), w.many, w.bits, list, ok)
		}
	}
	sameGet(t, modelRaw([]int{impl.RiceMax}, 8), 1, 8)
	sameGet(t, modelRaw([]int{impl.RiceMax, 0}, 7), 2, 7)
	if list, ok := impl.RiceGet("", 0, 8); !ok || len(list) != 0 {
		t.Errorf("RiceGet of nothing is %d and %t", list, ok)
	}
}
