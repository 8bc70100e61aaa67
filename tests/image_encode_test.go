package tests

import (
	"bytes"
	"fmt"
	"hash/crc32"
	"math"
	"slices"
	"strings"
	"sync"
	"testing"

	"loop.example/s02126/impl"
)

func sumIs(t *testing.T, what string, b []byte) {
	t.Helper()
	before := bytes.Clone(b)
	if got, want := impl.Crc32(b), wantSum(b); got != want || crc32.ChecksumIEEE(b) != want {
		t.Errorf("Crc32(%s): %#x, not %#x", what, got, want)
	}
	if !bytes.Equal(b, before) {
		t.Errorf("Crc32(%s) writes into the bytes", what)
	}
}

func TestCrc32Cases(t *testing.T) {
	for text, want := range map[string]uint32{
		"": 0, "123456789": 0xcbf43926, "a": 0xe8b7be43, "\x00": 0xd202ef8d, "\xff": 0xff000000, "\x00\x00\x00\x00": 0x2144df1c,
		"\xff\xff\xff\xff": 0xffffffff, "abc": 0x352441c2, "The quick brown fox jumps over the lazy dog": 0x414fa339,
	} {
		sumIs(t, fmt.Sprintf("%q", text), []byte(text))
		if got := impl.Crc32([]byte(text)); got != want {
			t.Errorf("Crc32(%q): %#x, not %#x", text, got, want)
		}
	}
	if got := impl.Crc32(nil); got != 0 {
		t.Errorf("no bytes: %#x", got)
	}
}

func TestCrc32OfShortAndLongLists(t *testing.T) {
	sums := map[uint32]int{}
	for c := range 256 {
		sumIs(t, fmt.Sprint("the byte ", c), []byte{byte(c)})
		sums[impl.Crc32([]byte{byte(c)})]++
		for d := range 256 {
			sumIs(t, fmt.Sprint("the bytes ", c, " ", d), []byte{byte(c), byte(d)})
			sums[impl.Crc32([]byte{byte(c), byte(d)})]++
		}
	}
	if len(sums) != 256+256*256 {
		t.Errorf("only %d sums", len(sums))
	}
	for _, n := range []int{3, 4, 5, 8, 63, 64, 65, 255, 256, 257, 4096, 114000, 1 << 20} {
		sumIs(t, fmt.Sprint(n, " zeros"), make([]byte, n))
		sumIs(t, fmt.Sprint(n, " times 255"), bytes.Repeat([]byte{255}, n))
		made := make([]byte, n)
		newSurveyor(int64(250000 + n)).r.Read(made)
		sumIs(t, fmt.Sprint(n, " made bytes"), made)
	}
	for seed := range int64(2000) {
		w := newSurveyor(251000 + seed)
		made := make([]byte, w.r.Intn(200))
		w.r.Read(made)
		sumIs(t, fmt.Sprintf("%x", made), made)
	}
}

// What lies behind the bytes is not counted in, and a call leaves nothing for the next.
func TestCrc32OfItsBytesAlone(t *testing.T) {
	b := []byte("123456789behind")
	for range 3 {
		if got := impl.Crc32(b[:9]); got != 0xcbf43926 || string(b) != "123456789behind" {
			t.Errorf("%#x, %s", got, b)
		}
		if got := impl.Crc32(b[:0]); got != 0 {
			t.Errorf("no bytes: %#x", got)
		}
	}
}

// imageIs wants the image of tables to be the sign, these bytes, and the checksum.
func imageIs(t *testing.T, x impl.Tables, rest ...byte) {
	t.Helper()
	got := imageOf(t, tablesText(x), x)
	if want := sealed(append([]byte{87, 72, 76, 49}, rest...)); !bytes.Equal(got, want) {
		t.Errorf("EncodeImage(%s): %v, not %v", tablesText(x), got, want)
	}
}

func TestEncodeImageCases(t *testing.T) {
	// no target
	imageIs(t, impl.Tables{W: 1, H: 1}, 1, 0, 1, 0, 0, 0)
	imageIs(t, impl.Tables{W: 40, H: 2, Targets: []impl.Target{}, Dist: [][]int{}, Hop: [][]int{}}, 40, 0, 2, 0, 0, 0)
	imageIs(t, impl.Tables{W: 1, H: 40}, 1, 0, 40, 0, 0, 0)
	// one
	imageIs(t, tablesFrom(t, "S 0"), 1, 0, 1, 0, 1, 0, 0, 0, 0, 1, 'a', 4, 0, 0)
	imageIs(t, tablesFrom(t, "C 0"), 1, 0, 1, 0, 1, 0, 1, 0, 0, 1, 'a', 4, 0, 0)
	imageIs(t, tablesFrom(t, "C - 0"), 2, 0, 1, 0, 1, 0, 1, 1, 0, 1, 'a', 0x24, 255, 255, 0, 0)
	imageIs(t, tablesFrom(t, "S 1v / 0 / -"), 1, 0, 3, 0, 1, 0, 0, 1, 0, 1, 'a', 0x22, 1, 1, 0, 0, 0, 255, 255)
	imageIs(t, tablesFrom(t, "S 0 1< 2<"), 3, 0, 1, 0, 1, 0, 0, 0, 0, 1, 'a', 0xdc, 0, 0, 0, 1, 0, 2, 0)
	// the distances at their bounds
	imageIs(t, tablesFrom(t, "S 0 255< 256< 65534< / 65533^ - - -"),
		4, 0, 2, 0, 1, 0, 0, 0, 0, 1, 'a', 0xdc, 0x06, 0x92, 0, 0, 255, 0, 0, 1, 254, 255, 253, 255, 255, 255, 255, 255, 255, 255)
	// all targets stand ahead of all rows; for each, its hops stand ahead of its distances
	imageIs(t, tablesFrom(t, "C 1> 0", "S 0 9<"), 2, 0, 1, 0, 2, 0, 1, 1, 0, 1, 'a', 0, 0, 0, 1, 'b', 0x21, 1, 0, 0, 0, 0x1c, 0, 0, 9, 0)
	x := tablesFrom(t, "C 1> 0", "S 0 9<")
	x.Targets[0].Name, x.Targets[1].Name = []byte("A long name"), []byte("å")
	imageIs(t, x, append(append([]byte{2, 0, 1, 0, 2, 0, 1, 1, 0, 11}, "A long name"...), 0, 0, 0, 2, 0xc3, 0xa5, 0x21, 1, 0, 0, 0, 0x1c, 0, 0, 9, 0)...)
}

// Where each thing stands in the image of the greatest tables.
func TestEncodeImageOfMostTargets(t *testing.T) {
	x := tablesOf(t, "the most targets", mostTargets())
	image := imageOf(t, "the most targets", x)
	if len(image) != 14+30*(64+600+3200) {
		t.Errorf("%d bytes", len(image))
	}
	if string(image[:4]) != "WHL1" || !bytes.Equal(image[4:10], []byte{40, 0, 40, 0, 30, 0}) {
		t.Errorf("the head is %v", image[:10])
	}
	for i, target := range x.Targets {
		head := image[10+64*i:][:64]
		if int(head[0]) != target.Kind || int(head[1])+256*int(head[2]) != target.Cell || head[3] != 60 || !bytes.Equal(head[4:], target.Name) {
			t.Errorf("target %d is %v", i, head)
		}
		row := image[10+30*64+3800*i:][:3800]
		hops, _ := wantPack(x.Hop[i])
		if !bytes.Equal(row[:600], hops) {
			t.Errorf("the hops of target %d are %s", i, imageText(row[:600]))
		}
		for cell, dist := range x.Dist[i] {
			if int(row[600+2*cell])+256*int(row[601+2*cell]) != dist {
				t.Errorf("target %d has %v for a Dist of %d", i, row[600+2*cell:][:2], dist)
			}
		}
	}
	for n := range 30 {
		y := copyTables(x)
		y.Targets, y.Dist, y.Hop = y.Targets[:n], y.Dist[:n], y.Hop[:n]
		imageOf(t, fmt.Sprint(n, " targets"), y)
	}
}

func TestEncodeImageOfNames(t *testing.T) {
	for n := 1; n <= 60; n++ {
		x := plainTables(2, 2, 3)
		x.Targets[1].Name = append([]byte("B"), bytes.Repeat([]byte("n"), n-1)...)
		imageOf(t, fmt.Sprint("a name of ", n, " bytes"), x)
	}
	for _, name := range []string{"\x00", "\n", "\"", "\x7f", "å", "€", "😀", "\U0010ffff", strings.Repeat("😀", 15), strings.Repeat("å", 30), strings.Repeat("\x00", 60)} {
		x := plainTables(2, 1, 1)
		x.Targets[0].Name = []byte(name)
		image := imageOf(t, fmt.Sprintf("the name %q", name), x)
		if len(image) != 14+4+len(name)+1+4 {
			t.Errorf("the name %q: %d bytes", name, len(image))
		}
	}
}

// Every size of a grid, with a target on each of some cells.
func TestEncodeImageOfSizes(t *testing.T) {
	for w := 1; w <= 40; w++ {
		for h := 1; h <= 40; h++ {
			imageOf(t, fmt.Sprint(w, " by ", h, " without targets"), impl.Tables{W: w, H: h})
			if w > 5 && w < 38 && h > 5 && h < 38 {
				continue
			}
			for _, cell := range slices.Compact([]int{0, w*h - 1}) {
				x := plainTables(w, h, 1)
				x.Targets[0].Cell = cell
				x.Dist[0][0] = -1
				x.Dist[0][cell] = 0
				imageOf(t, fmt.Sprint(w, " by ", h, ", cell ", cell), x)
			}
		}
	}
	for _, cell := range []int{254, 255, 256, 257, 511, 512, 1023, 1598, 1599} {
		x := plainTables(40, 40, 1)
		x.Targets[0].Cell = cell
		x.Dist[0][0], x.Dist[0][cell] = -1, 0
		image := imageOf(t, fmt.Sprint("cell ", cell), x)
		if int(image[11]) != cell%256 || int(image[12]) != cell/256 {
			t.Errorf("cell %d: %v", cell, image[:20])
		}
	}
}

func TestEncodeImageOfDistances(t *testing.T) {
	for dist := 1; dist <= 65534; dist++ {
		x := tablesFrom(t, "S 0 1<")
		x.Dist[0][1] = dist
		image := impl.EncodeImage(x)
		if len(image) != 14+5+1+4 || int(image[18])+256*int(image[19]) != dist {
			t.Fatalf("Dist %d: %v", dist, image)
		}
		if back, code := impl.DecodeImage(image); code != impl.CodeOK || !sameTables(back, x) {
			t.Fatalf("Dist %d: %s, %d", dist, tablesText(back), code)
		}
	}
	for _, dist := range []int{-2, 0, 65535, 65536, 65537, 1 << 16 * 3} {
		x := tablesFrom(t, "S 0 1<")
		x.Dist[0][1] = dist
		if image := impl.EncodeImage(x); len(image) != 0 {
			t.Errorf("Dist %d: %v", dist, image)
		}
	}
}

func TestEncodeImageRefuses(t *testing.T) {
	changes := []func(x *impl.Tables){
		func(x *impl.Tables) { *x = impl.Tables{} },
		func(x *impl.Tables) { x.W = 0 },
		func(x *impl.Tables) { x.H = 0 },
		func(x *impl.Tables) { x.W, x.H = x.H, x.W },
		func(x *impl.Tables) { x.W, x.H = -4, -3 },
		func(x *impl.Tables) { x.W = 41 },
		func(x *impl.Tables) { x.H = math.MaxInt },
		func(x *impl.Tables) { x.W += 1 << 16 },
		func(x *impl.Tables) { x.H += 1 << 32 },
		func(x *impl.Tables) { x.Targets = nil },
		func(x *impl.Tables) { x.Targets = x.Targets[1:] },
		func(x *impl.Tables) { x.Targets[0].Name = nil },
		func(x *impl.Tables) { x.Targets[0].Name = []byte("z") },
		func(x *impl.Tables) { x.Targets[0].Name = x.Targets[1].Name },
		func(x *impl.Tables) { x.Targets[1].Name = []byte("n\xff") },
		func(x *impl.Tables) { x.Targets[2].Name = bytes.Repeat([]byte("z"), 61) },
		func(x *impl.Tables) { x.Targets[0].Kind = 2 },
		func(x *impl.Tables) { x.Targets[0].Kind = -1 },
		func(x *impl.Tables) { x.Targets[0].Kind += 256 },
		func(x *impl.Tables) { x.Targets[0].Cell += 1 << 16 },
		func(x *impl.Tables) { x.Targets[0].Cell = 12 },
		func(x *impl.Tables) { x.Targets[0].Cell = -1 },
		func(x *impl.Tables) { x.Targets[0].Cell = x.Targets[1].Cell },
		func(x *impl.Tables) { x.Dist = x.Dist[1:] },
		func(x *impl.Tables) { x.Hop = x.Hop[1:] },
		func(x *impl.Tables) { x.Dist = append(x.Dist, x.Dist[0]) },
		func(x *impl.Tables) { x.Hop = append(x.Hop, nil) },
		func(x *impl.Tables) { x.Dist[2] = x.Dist[2][1:] },
		func(x *impl.Tables) { x.Hop[2] = append(x.Hop[2], -1) },
		func(x *impl.Tables) { x.Dist[0][x.Targets[0].Cell] = 1 },
		func(x *impl.Tables) { x.Dist[0][x.Targets[0].Cell] = -1 },
		func(x *impl.Tables) { x.Hop[0][x.Targets[0].Cell] = 1 },
		func(x *impl.Tables) { x.Dist[1][2] = 0 },
		func(x *impl.Tables) { x.Dist[1][2] = 65535 },
		func(x *impl.Tables) { x.Dist[1][2] = -1 },
		func(x *impl.Tables) { x.Dist[1][2] = -2 },
		func(x *impl.Tables) { x.Dist[1][2] += 1 << 16 },
		func(x *impl.Tables) { x.Hop[1][2] = -1 },
		func(x *impl.Tables) { x.Hop[1][2] = 4 },
		func(x *impl.Tables) { x.Hop[1][2] = -2 },
		func(x *impl.Tables) { x.Hop[1][2] += 8 },
		func(x *impl.Tables) { x.Hop[1][2] = 0 }, // out of the grid
		func(x *impl.Tables) { x.Hop[1][2] = 3 }, // to a wall, which has no way
		func(x *impl.Tables) { x.Hop[1][2] = 2 }, // farther
	}
	for i, change := range changes {
		x := tablesOf(t, crowded, layoutOf(t, crowded))
		imageOf(t, crowded, x)
		change(&x)
		if image := impl.EncodeImage(x); len(image) != 0 {
			t.Errorf("change %d: %s has an image: %v", i, tablesText(x), image)
		}
		tablesBad(t, fmt.Sprint("change ", i), x)
	}
	if image := impl.EncodeImage(plainTables(10, 6, 31)); len(image) != 0 {
		t.Errorf("31 targets: %s", imageText(image))
	}
}

func TestEncodeImageOfAllSmallTables(t *testing.T) {
	images := map[string]int{}
	valid := 0
	compare := func(w, h int, dists, hops []int) {
		allTables(w, h, dists, hops, func(x impl.Tables) {
			if wantValidTables(x) {
				valid++
				images[string(imageOf(t, tablesText(x), x))]++
			} else if image := impl.EncodeImage(x); len(image) != 0 {
				t.Errorf("%s: %s", tablesText(x), imageText(image))
			}
		})
	}
	compare(1, 1, span(-2, 4), span(-2, 8))
	compare(2, 1, span(-2, 3), span(-2, 4))
	compare(1, 2, span(-2, 3), span(-2, 4))
	compare(3, 1, span(-1, 3), []int{-1, 1, 3})
	compare(2, 2, []int{-1, 0, 1, 2}, span(-1, 3))
	if len(images) != valid || valid < 100 {
		t.Errorf("%d tables have %d images", valid, len(images))
	}
}

func TestEncodeImageOfMadeTables(t *testing.T) {
	for seed := range int64(3000) {
		w := newSurveyor(252000 + seed)
		x := w.tables(6)
		imageOf(t, tablesText(x), x)
		y := copyTables(x)
		w.spoilTables(&y)
		if got := impl.EncodeImage(y); !bytes.Equal(got, wantImage(y)) {
			t.Errorf("EncodeImage(%s): %s", tablesText(y), imageText(got))
		}
		if t.Failed() {
			return
		}
	}
	for seed := range int64(500) {
		l := newSurveyor(256000 + seed).layout(7)
		imageOf(t, fmt.Sprint(l), tablesOf(t, fmt.Sprint(l), l))
	}
	for seed := range int64(10) {
		x := newSurveyor(257000 + seed).tables(40)
		imageOf(t, tablesText(x), x)
	}
}

func TestEncodeImageAnswersTheSameEachTime(t *testing.T) {
	all := []impl.Tables{tablesOf(t, crowded, layoutOf(t, crowded)), plainTables(3, 3, 0), {}, tablesOf(t, "most", mostTargets()), plainTables(1, 1, 1)}
	var calls sync.WaitGroup
	for n := range 20 {
		calls.Go(func() {
			x := all[n%len(all)]
			if got := impl.EncodeImage(x); !bytes.Equal(got, wantImage(x)) {
				t.Errorf("EncodeImage(%s): %s", tablesText(x), imageText(got))
			}
		})
	}
	calls.Wait()
	for range 3 {
		for _, x := range all {
			if got := impl.EncodeImage(x); !bytes.Equal(got, wantImage(x)) {
				t.Errorf("EncodeImage(%s): %s", tablesText(x), imageText(got))
			}
		}
	}
}

func TestEncodeImageIsNewMemory(t *testing.T) {
	for _, plain := range []impl.Tables{plainTables(1, 1, 0), tablesFrom(t, "S 0"), tablesFrom(t, "C 1> 0 1<", "S 2> 1> 0"), tablesOf(t, crowded, layoutOf(t, crowded))} {
		what := tablesText(plain)
		x := roomyTables(plain)
		first, second := impl.EncodeImage(x), impl.EncodeImage(x)
		n := len(x.Targets)
		if !sameTables(x, plain) || x.Targets[:n+1][n].Cell != 7 || x.Dist[:n+1][n][0] != 7 || x.Hop[:n+1][n][0] != 7 {
			t.Errorf("%s is written into: %s", what, tablesText(x))
		}
		behindLists(t, what, slices.Concat(x.Dist, x.Hop)...)
		for _, target := range x.Targets {
			behindName(t, what, target.Name)
		}
		shareNone(t, what, append(tablesExtents(x), extentOf(first), extentOf(second)))
		wipeTables(x)
		clear(first[:cap(first)])
		if !bytes.Equal(second, wantImage(plain)) {
			t.Errorf("%s: the image hangs on the tables or on another answer", what)
		}
		imageOf(t, what+" again", plain)
	}
}
