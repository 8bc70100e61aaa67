package tests

import (
	"bytes"
	"fmt"
	"math"
	"slices"
	"testing"

	"loop.example/s02126/impl"
)

var allHops = []int{-1, 0, 1, 2, 3}

// packs holds PackHops of a list against bits set one by one, and UnpackHops of it against the list.
func packs(t *testing.T, hops []int) {
	t.Helper()
	before := slices.Clone(hops)
	got, code := impl.PackHops(hops)
	want, wantCode := wantPack(hops)
	if code != wantCode || !bytes.Equal(got, want) {
		t.Errorf("PackHops(%s): %s, %d, not %s, %d", hopsText(hops), imageText(got), code, imageText(want), wantCode)
	}
	if !slices.Equal(hops, before) {
		t.Errorf("PackHops(%s) writes into the hops", hopsText(before))
	}
	if code == impl.CodeOK {
		unpacks(t, got, len(hops))
		if back, code := impl.UnpackHops(got, len(hops)); code != impl.CodeOK || !slices.Equal(back, hops) {
			t.Errorf("UnpackHops(PackHops(%s)): %s, %d", hopsText(hops), hopsText(back), code)
		}
	}
}

func unpacks(t *testing.T, b []byte, n int) {
	t.Helper()
	before := bytes.Clone(b)
	got, code := impl.UnpackHops(b, n)
	want, wantCode := wantUnpack(b, n)
	if code != wantCode || !slices.Equal(got, want) {
		t.Errorf("UnpackHops(%s, %d): %s, %d, not %s, %d", imageText(b), n, hopsText(got), code, hopsText(want), wantCode)
	}
	if !bytes.Equal(b, before) {
		t.Errorf("UnpackHops(%s, %d) writes into the bytes", imageText(before), n)
	}
}

func hopsText(hops []int) string {
	if len(hops) > 60 {
		return fmt.Sprint(len(hops), " hops, at first ", hops[:20])
	}
	return fmt.Sprint(hops)
}

func packIs(t *testing.T, hops []int, want ...byte) {
	t.Helper()
	packs(t, hops)
	if got, code := impl.PackHops(hops); code != impl.CodeOK || !bytes.Equal(got, want) {
		t.Errorf("PackHops(%v): %x, %d, not %x", hops, got, code, want)
	}
}

func unpackRefuses(t *testing.T, b []byte, n int, want int) {
	t.Helper()
	if got, code := impl.UnpackHops(b, n); code != want || len(got) != 0 {
		t.Errorf("UnpackHops(%s, %d): %s, %d, not %d", imageText(b), n, hopsText(got), code, want)
	}
}

func TestPackHopsCases(t *testing.T) {
	packIs(t, nil)
	packIs(t, []int{})
	for hop, b := range map[int]byte{-1: 4, 0: 0, 1: 1, 2: 2, 3: 3} {
		packIs(t, []int{hop}, b)
		packIs(t, []int{hop, 0}, b)
		packIs(t, []int{0, hop}, b<<3)
		packIs(t, []int{0, 0, 0, 0, 0, 0, 0, 0, hop}, 0, 0, 0, b)
	}
	// the third hop lies in two bytes, the sixth too
	packIs(t, []int{0, 0, -1}, 0, 1)
	packIs(t, []int{0, 0, 3}, 0xc0, 0)
	packIs(t, []int{-1, -1, -1}, 0x24, 1)
	packIs(t, []int{0, 0, 0, 0, 0, -1}, 0, 0, 2)
	packIs(t, []int{0, 0, 0, 0, 0, 3}, 0, 0x80, 1)
	packIs(t, []int{3, 3, 3, 3, 3, 3, 3, 3}, 0xdb, 0xb6, 0x6d)
	packIs(t, []int{-1, -1, -1, -1, -1, -1, -1, -1}, 0x24, 0x49, 0x92)
	packIs(t, []int{0, 1, 2, 3, -1, 0, 1, 2}, 0x88, 0x46, 0x44)
}

func TestPackHopsOfOneToNine(t *testing.T) {
	for n := 1; n <= 9; n++ {
		for place := range n {
			for _, others := range allHops {
				for _, hop := range allHops {
					hops := slices.Repeat([]int{others}, n)
					hops[place] = hop
					packs(t, hops)
					got, _ := impl.PackHops(hops)
					if size := []int{0, 1, 1, 2, 2, 2, 3, 3, 3, 4}[n]; len(got) != size {
						t.Errorf("%v: %d bytes, not %d", hops, len(got), size)
					}
				}
			}
		}
	}
}

func TestPackHopsRefuses(t *testing.T) {
	others := []int{-2, -3, 4, 5, 6, 7, 8, 255, 256, 257, -256, -255}
	for _, n := range extremes {
		if n != -1 {
			others = append(others, n, n+4)
		}
	}
	for _, length := range []int{1, 2, 3, 7, 8, 9, 1600, 1601} {
		for _, place := range []int{0, 1, length / 2, length - 2, length - 1} {
			for _, other := range others {
				if place < 0 || place >= length || other >= -1 && other <= 3 {
					continue
				}
				hops := slices.Repeat([]int{2}, length)
				hops[place] = other
				before := slices.Clone(hops)
				if got, code := impl.PackHops(hops); code != impl.CodeBad || len(got) != 0 {
					t.Errorf("%d at %d of %d: %s, %d", other, place, length, imageText(got), code)
				}
				if !slices.Equal(hops, before) {
					t.Errorf("%d at %d of %d: the hops are written into", other, place, length)
				}
			}
		}
	}
}

// hops makes a list of them.
func (w surveyor) hops(n int) []int {
	var hops []int
	for range n {
		hops = append(hops, pick(w.r, allHops...))
	}
	return hops
}

func TestPackHopsOfLongLists(t *testing.T) {
	for _, n := range []int{10, 63, 64, 65, 999, 1599, 1600, 1601, 1602, 4000, 65535, 65536, 100003} {
		packs(t, newSurveyor(int64(240000+n)).hops(n))
	}
	for _, hop := range allHops {
		packs(t, slices.Repeat([]int{hop}, 1600))
	}
	for seed := range int64(2000) {
		w := newSurveyor(241000 + seed)
		packs(t, w.hops(w.r.Intn(100)))
	}
}

// allLists calls for each list of so many of these values.
func allLists[T any](values []T, length int, visit func(list []T)) {
	list := make([]T, length)
	var fill func(at int)
	fill = func(at int) {
		if at == length {
			visit(list)
			return
		}
		for _, list[at] = range values {
			fill(at + 1)
		}
	}
	fill(0)
}

func TestUnpackHopsOfAllShortLists(t *testing.T) {
	images := map[string]int{}
	for length := range 7 {
		allLists(allHops, length, func(hops []int) {
			packs(t, hops)
			b, _ := impl.PackHops(hops)
			images[fmt.Sprint(length, string(b))]++
		})
	}
	if len(images) != 1+5+25+125+625+3125+15625 {
		t.Errorf("only %d lists have bytes of their own", len(images))
	}
}

func TestUnpackHopsOfAllShortBytes(t *testing.T) {
	taken := map[int]int{}
	compare := func(b []byte) {
		for n := -1; n <= 9; n++ {
			unpacks(t, b, n)
			hops, code := impl.UnpackHops(b, n)
			again, _ := impl.PackHops(hops)
			if code == impl.CodeOK {
				taken[n]++
				if len(hops) != n || !bytes.Equal(again, b) {
					t.Errorf("UnpackHops(%x, %d): %v, which is packed as %x", b, n, hops, again)
				}
			}
		}
	}
	compare(nil)
	compare([]byte{})
	for c := range 256 {
		compare([]byte{byte(c)})
		for d := range 256 {
			compare([]byte{byte(c), byte(d)})
		}
		if t.Failed() {
			return
		}
	}
	if fmt.Sprint(taken) != fmt.Sprint(map[int]int{0: 2, 1: 5, 2: 25, 3: 125, 4: 625, 5: 3125}) {
		t.Errorf("so many are taken for each n: %v", taken)
	}
}

func TestUnpackHopsRefusesFewerThanNone(t *testing.T) {
	for _, n := range []int{-1, -2, -3, -8, -1600, math.MinInt, math.MinInt + 1, -1 << 62, -1 << 32, -1 << 31} {
		for _, b := range [][]byte{nil, {}, {0}, {5}, {255}, {0, 0}, {255, 255, 255}, make([]byte, 600)} {
			unpackRefuses(t, b, n, impl.CodeBad)
		}
	}
}

func TestUnpackHopsOfNone(t *testing.T) {
	for _, b := range [][]byte{nil, {}} {
		if hops, code := impl.UnpackHops(b, 0); code != impl.CodeOK || len(hops) != 0 {
			t.Errorf("%v, %d", hops, code)
		}
	}
	for c := range 256 {
		unpackRefuses(t, []byte{byte(c)}, 0, impl.CodeCorrupt)
		unpackRefuses(t, []byte{0, byte(c)}, 0, impl.CodeCorrupt)
	}
}

func TestUnpackHopsOfOtherLengths(t *testing.T) {
	for _, n := range append(span(1, 40), 1599, 1600, 1601) {
		b, _ := wantPack(newSurveyor(int64(242000 + n)).hops(n))
		unpacks(t, b, n)
		unpackRefuses(t, b[:len(b)-1], n, impl.CodeCorrupt)
		unpackRefuses(t, b[1:], n, impl.CodeCorrupt)
		unpackRefuses(t, nil, n, impl.CodeCorrupt)
		for _, more := range []byte{0, 1, 128, 255} {
			unpackRefuses(t, append(slices.Clone(b), more), n, impl.CodeCorrupt)
		}
		unpackRefuses(t, append(slices.Clone(b), make([]byte, 5)...), n, impl.CodeCorrupt)
		for m := range n + 5 {
			unpacks(t, b, m)
		}
	}
}

func TestUnpackHopsOfVeryMany(t *testing.T) {
	many := []int{math.MaxInt, math.MaxInt - 1, math.MaxInt / 3, math.MaxInt/3 + 1, math.MaxInt / 2, 1 << 62, 1 << 61, 1 << 60, 1 << 40, 1 << 32, 1 << 31}
	// 3 * n is as much as a little beyond what 32, 63 or 64 bits hold
	for more := range 10 {
		many = append(many, 1431655765+more, 3074457345618258602+more, 6148914691236517205+more)
	}
	for _, n := range many {
		for _, b := range [][]byte{nil, {0}, {0, 0}, {0, 0, 0}, make([]byte, 100), {255, 255, 255, 255}} {
			asked := allocated(func() { unpackRefuses(t, b, n, impl.CodeCorrupt) })
			if asked > 100000 {
				t.Errorf("UnpackHops of %d bytes for %d asks for %d bytes of memory", len(b), n, asked)
			}
		}
	}
}

func TestUnpackHopsRefusesOtherValues(t *testing.T) {
	for _, n := range append(span(1, 20), 1600) {
		for _, others := range allHops {
			for place := range n {
				if n > 20 && place > 20 && place < n-20 {
					continue
				}
				for other := range 8 {
					raw := rawImage(impl.Tables{Hop: [][]int{append(append(slices.Repeat([]int{others}, place), other), slices.Repeat([]int{others}, n-place-1)...)}})
					b := raw[10 : len(raw)-4]
					unpacks(t, b, n)
					if other > 4 {
						unpackRefuses(t, b, n, impl.CodeCorrupt)
					}
				}
			}
		}
	}
}

func TestUnpackHopsRefusesBitsThatAreLeftOver(t *testing.T) {
	for _, n := range append(span(1, 20), 1599, 1601, 1602) {
		b, _ := wantPack(newSurveyor(int64(243000 + n)).hops(n))
		for bit := 3 * n; bit < 8*len(b); bit++ {
			other := slices.Clone(b)
			other[bit/8] |= 1 << (bit % 8)
			unpackRefuses(t, other, n, impl.CodeCorrupt)
			unpacks(t, other, n)
		}
	}
}

func TestUnpackHopsOfChangedBytes(t *testing.T) {
	taken := 0
	for seed := range int64(3000) {
		w := newSurveyor(244000 + seed)
		n := w.r.Intn(30)
		b, _ := wantPack(w.hops(n))
		for range 5 {
			if len(b) > 0 {
				b[w.r.Intn(len(b))] ^= 1 << w.r.Intn(8)
			}
			unpacks(t, b, n)
			if _, code := impl.UnpackHops(b, n); code == impl.CodeOK {
				taken++
			}
		}
	}
	if taken < 2000 || taken > 10000 {
		t.Errorf("%d of 15000 are taken: too few of one sort", taken)
	}
}

func TestHopsAreNewMemory(t *testing.T) {
	for _, n := range []int{0, 1, 2, 3, 8, 9, 1600} {
		plain := newSurveyor(int64(245000 + n)).hops(n)
		hops := append(slices.Clone(plain), 7, 7)[:n]
		first, _ := impl.PackHops(hops)
		second, _ := impl.PackHops(hops)
		behindLists(t, hopsText(plain), hops)
		want := bytes.Clone(second)
		b := append(bytes.Clone(second), "behind"...)[:len(second)]
		unpacked, code := impl.UnpackHops(b, n)
		again, _ := impl.UnpackHops(b, n)
		behindName(t, hopsText(plain), b)
		shareNone(t, hopsText(plain), []extent{extentOf(hops), extentOf(first), extentOf(second), extentOf(b), extentOf(unpacked), extentOf(again)})
		clear(hops)
		clear(first)
		clear(b)
		clear(unpacked)
		if code != impl.CodeOK || !bytes.Equal(second, want) || !slices.Equal(again, plain) {
			t.Errorf("%s: an answer hangs on the argument or on another answer", hopsText(plain))
		}
		packs(t, plain)
	}
}
