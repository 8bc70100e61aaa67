package tests

import (
	"bytes"
	"fmt"
	"slices"
	"strings"
	"testing"

	"loop.example/s02126/impl"
)

// smallTables are some of which every byte and bit of the image can be changed.
func smallTables(t *testing.T) []impl.Tables {
	named := tablesFrom(t, "C 1> 0 300<", "S 0 65534< -")
	named.Targets[0].Name, named.Targets[1].Name = []byte("a b"), []byte("å€")
	return []impl.Tables{plainTables(1, 1, 0), plainTables(40, 40, 0), tablesFrom(t, "S 0"), tablesFrom(t, "C - 0"), named, tablesOf(t, crowded, layoutOf(t, crowded))}
}

func smallImages(t *testing.T) [][]byte {
	var images [][]byte
	for _, x := range smallTables(t) {
		images = append(images, imageOf(t, tablesText(x), x))
	}
	return images
}

func TestDecodeImageOfFewBytes(t *testing.T) {
	noImage(t, "nil", nil)
	noImage(t, "no bytes", []byte{})
	for n := range 15 {
		noImage(t, "zeros", make([]byte, n))
		noImage(t, "255s", bytes.Repeat([]byte{255}, n))
		noImage(t, "zeros with a checksum", sealed(make([]byte, n)))
		noImage(t, "255s with a checksum", sealed(bytes.Repeat([]byte{255}, n)))
		noImage(t, "signs", []byte(strings.Repeat("WHL1", 4))[:n])
	}
	noImage(t, "the sign", sealed([]byte("WHL1")))
	noImage(t, "the source", []byte("grid 1 1"))
}

func TestDecodeImageOfOtherLengths(t *testing.T) {
	most := imageOf(t, "the most targets", tablesOf(t, "the most targets", mostTargets()))
	for _, image := range append(smallImages(t), most) {
		body := image[:len(image)-4]
		for n := range len(image) {
			if len(image) > 1000 && n > 3000 && n < len(image)-20 && n%997 != 0 {
				continue
			}
			noImage(t, fmt.Sprint(n, " of its bytes"), image[:n])
			noImage(t, fmt.Sprint("without its first ", n+1), image[n+1:])
			if n < len(body) {
				noImage(t, fmt.Sprint(n, " of its bytes with a checksum"), sealed(body[:n]))
				noImage(t, fmt.Sprint("its last ", n, " with a checksum"), sealed(body[len(body)-n:]))
			}
		}
		for _, more := range [][]byte{{0}, {255}, {'W'}, {0, 0}, {1, 2, 3, 4}, make([]byte, 100), image, image[len(image)-4:], sealed(image)[len(image):]} {
			noImage(t, "with bytes behind it", slices.Concat(image, more))
			noImage(t, "with bytes ahead of it", slices.Concat(more, image))
			noImage(t, "with bytes behind it and a checksum", sealed(slices.Concat(body, more)))
			noImage(t, "with bytes behind it and two checksums", sealed(slices.Concat(image, more)))
		}
	}
}

func TestDecodeImageOfChangedBytes(t *testing.T) {
	taken, refused := 0, 0
	for _, image := range smallImages(t) {
		for at := range image {
			for c := range 256 {
				other := bytes.Clone(image)
				other[at] = byte(c)
				if byte(c) == image[at] {
					continue
				}
				noImage(t, fmt.Sprint("byte ", at, " as ", c), other)
				if at >= len(image)-4 {
					continue
				}
				if decodesAsWanted(t, fmt.Sprint("byte ", at, " as ", c, " with a checksum"), resealed(other)) {
					taken++
				} else {
					refused++
				}
			}
			if t.Failed() {
				return
			}
		}
	}
	if taken < 500 || refused < 5000 {
		t.Errorf("%d are taken, %d are not: too few of one sort", taken, refused)
	}
}

// toggled answers an image in which, from a bit on, those are changed that are 1 in the pattern.
func toggled(image []byte, bit int, pattern uint64) []byte {
	out := bytes.Clone(image)
	for n := range 64 {
		if pattern>>n&1 != 0 {
			out[(bit+n)/8] ^= 1 << ((bit + n) % 8)
		}
	}
	return out
}

func TestDecodeImageOfChangedBitsInARow(t *testing.T) {
	for i, image := range smallImages(t) {
		w := newSurveyor(int64(260000 + i))
		bits := 8 * len(image)
		for bit := range bits {
			for length := 1; length <= 32 && bit+length <= bits; length++ {
				ends := uint64(1)<<(length-1) | 1
				all := uint64(1)<<length - 1
				for _, pattern := range []uint64{all, ends, ends | all&0x55555555, ends | all&w.r.Uint64(), ends | all&w.r.Uint64()} {
					noImage(t, fmt.Sprintf("bits from %d on changed by %b", bit, pattern), toggled(image, bit, pattern))
				}
			}
			if t.Failed() {
				return
			}
		}
	}
}

// All changes within nine bits, and those of the checksum itself that are no more than 32.
func TestDecodeImageOfAllShortChanges(t *testing.T) {
	for _, x := range []impl.Tables{plainTables(1, 1, 0), tablesFrom(t, "C 1> 0 300<", "S 0 65534< -")} {
		image := imageOf(t, tablesText(x), x)
		for bit := range 8*len(image) - 8 {
			for pattern := uint64(1); pattern < 512; pattern += 2 {
				noImage(t, fmt.Sprintf("bits from %d on changed by %b", bit, pattern), toggled(image, bit, pattern))
			}
			if t.Failed() {
				return
			}
		}
		w := newSurveyor(261000)
		for range 20000 {
			noImage(t, "another checksum", toggled(image, 8*len(image)-32, uint64(max(1, w.r.Uint32()))))
		}
	}
}

func TestDecodeImageOfChangedBitsInTheGreatestImage(t *testing.T) {
	image := imageOf(t, "the most targets", tablesOf(t, "the most targets", mostTargets()))
	w := newSurveyor(262000)
	for range 300 {
		length := 1 + w.r.Intn(32)
		pattern := (w.r.Uint64()|1)&(1<<length-1) | 1<<(length-1)
		bit := w.r.Intn(8*len(image) - 32)
		noImage(t, fmt.Sprintf("bits from %d on changed by %b", bit, pattern), toggled(image, bit, pattern))
	}
}

// changed answers an image with other bytes from one place on, and a checksum of them.
func changed(image []byte, at int, to ...byte) []byte {
	out := bytes.Clone(image)
	copy(out[at:], to)
	return resealed(out)
}

func TestDecodeImageOfHeads(t *testing.T) {
	for _, x := range smallTables(t) {
		image := wantImage(x)
		what := tablesText(x) + ": "
		decodesTo(t, what, changed(image, 0), x)
		for _, sign := range []string{"WHL0", "WHL2", "whl1", "WHl1", "XHL1", "WGL1", "1LHW", "\x00\x00\x00\x00", "WHL\xb1"} {
			noImage(t, what+sign, changed(image, 0, []byte(sign)...))
		}
		// the highest byte first
		noImage(t, what+"W turned", changed(image, 4, image[5], image[4]))
		noImage(t, what+"H turned", changed(image, 6, image[7], image[6]))
		sum := len(image) - 4
		noImage(t, what+"the checksum turned", append(bytes.Clone(image[:sum]), image[sum+3], image[sum+2], image[sum+1], image[sum]))
		noImage(t, what+"the checksum of all but the sign", append(bytes.Clone(image[:sum]), sealed(image[4:sum])[sum-4:]...))
	}
}

func TestDecodeImageOfSides(t *testing.T) {
	for _, sides := range [][]int{{0, 1}, {1, 0}, {0, 0}, {41, 1}, {1, 41}, {41, 41}, {255, 1}, {256, 1}, {1, 256}, {257, 1}, {1, 65535}, {65535, 65535}, {1600, 1}, {32768, 2}} {
		w, h := sides[0], sides[1]
		noImage(t, fmt.Sprint(sides), rawImage(impl.Tables{W: w, H: h}))
		if w*h <= 1681 {
			x := plainTables(max(1, w*h), 1, 1)
			x.W, x.H = w, h
			x.Dist[0], x.Hop[0] = x.Dist[0][:w*h], x.Hop[0][:w*h]
			noImage(t, fmt.Sprint(sides, " with a target"), rawImage(x))
		}
		few := rawImage(plainTables(3, 2, 1))
		noImage(t, fmt.Sprint(sides, " with few bytes"), changed(few, 4, byte(w), byte(w>>8), byte(h), byte(h>>8)))
	}
	for _, sides := range [][]int{{1, 1}, {40, 1}, {1, 40}, {40, 40}, {39, 40}} {
		x := plainTables(sides[0], sides[1], 1)
		decodesTo(t, fmt.Sprint(sides), rawImage(x), x)
	}
	// other sides with as many cells, which the hops may not fit any more
	x := tablesFrom(t, "S 0 1< 2< / 1^ 2^ 3^")
	image := rawImage(x)
	decodesTo(t, "3 by 2", image, x)
	noImage(t, "2 by 3", changed(image, 4, 2, 0, 3, 0))
	noImage(t, "1 by 6", changed(image, 4, 1, 0, 6, 0))
	noImage(t, "6 by 1", changed(image, 4, 6, 0, 1, 0))
	noImage(t, "3 by 1", changed(image, 4, 3, 0, 1, 0))
	noImage(t, "4 by 2", changed(image, 4, 4, 0, 2, 0))
}

func TestDecodeImageOfTargetNumbers(t *testing.T) {
	for n := range 5 {
		x := plainTables(3, 2, n)
		image := rawImage(x)
		decodesTo(t, fmt.Sprint(n, " targets"), image, x)
		for other := range 70000 {
			if other != n && (other < 300 || other > 65500) && other < 65536 {
				noImage(t, fmt.Sprint(other, " targets, not ", n), changed(image, 8, byte(other), byte(other>>8)))
			}
		}
	}
	for n, ok := range map[int]bool{29: true, 30: true, 31: false, 32: false, 60: false} {
		x := plainTables(10, 6, n)
		if ok {
			decodesTo(t, fmt.Sprint(n, " targets"), rawImage(x), x)
		} else {
			noImage(t, fmt.Sprint(n, " targets"), rawImage(x))
		}
	}
	// 256 targets, each alike on all but their name and cell
	x := impl.Tables{W: 40, H: 40}
	for i := range 256 {
		x.Targets = append(x.Targets, target(fmt.Sprintf("%03d", i), 0, i))
		one := plainTables(40, 40, 1)
		one.Dist[0][0], one.Dist[0][i] = -1, 0
		x.Dist, x.Hop = append(x.Dist, one.Dist[0]), append(x.Hop, one.Hop[0])
	}
	noImage(t, "256 targets", rawImage(x))
}

// rawIs wants the image of changed tables to be taken, or not to be.
func rawIs(t *testing.T, what string, x impl.Tables, ok bool) {
	t.Helper()
	if wantValidTables(x) != ok {
		t.Errorf("%s: the test has it wrong: %s", what, tablesText(x))
	}
	if ok {
		decodesTo(t, what, rawImage(x), x)
	} else {
		noImage(t, what, rawImage(x))
	}
}

func TestDecodeImageOfNames(t *testing.T) {
	for name, ok := range map[string]bool{
		"": false, "a": true, "\x00": true, "å": true, "😀": true, "\U0010ffff": true, strings.Repeat("n", 60): true,
		strings.Repeat("n", 61): false, strings.Repeat("n", 255): false, strings.Repeat("å", 30): true, strings.Repeat("å", 31): false,
		"\xff": false, "a\xc3": false, "\xed\xa0\x80": false, "\xc0\x80": false, "\xf4\x90\x80\x80": false, "\x80": false, "\xe2\x82": false,
	} {
		x := plainTables(3, 1, 1)
		x.Targets[0].Name = []byte(name)
		rawIs(t, fmt.Sprintf("the name %q", name), x, ok)
	}
	for names, ok := range map[[3]string]bool{
		{"A", "B", "a"}: true, {"a", "aa", "ab"}: true, {"10", "2", "20"}: true, {"z", "å", "€"}: true, {"", "a", "b"}: false, {"a", "", "b"}: false,
		{"a", "B", "c"}: false, {"aa", "a", "b"}: false, {"a", "a", "b"}: false, {"a", "b", "b"}: false, {"a", "c", "b"}: false, {"c", "b", "a"}: false, {"a", "a", "a"}: false,
	} {
		x := plainTables(2, 2, 3)
		for i, name := range names {
			x.Targets[i].Name = []byte(name)
		}
		rawIs(t, fmt.Sprintf("the names %q", names), x, ok)
	}
	// the length of a name leads beyond the end, or into what comes after it
	for _, x := range smallTables(t) {
		image := wantImage(x)
		if len(x.Targets) == 0 {
			continue
		}
		for n := range 256 {
			if n != len(x.Targets[0].Name) {
				noImage(t, fmt.Sprint("a name of ", n), changed(image, 13, byte(n)))
			}
		}
	}
}

func TestDecodeImageOfKindsAndCells(t *testing.T) {
	for i := range 3 {
		for kind := range 256 {
			x := plainTables(4, 3, 3)
			x.Targets[i].Kind = kind
			rawIs(t, fmt.Sprint("kind ", kind), x, kind < 2)
		}
		for cell := range 65536 {
			if cell > 300 && cell%256 > 13 && cell != 65535 {
				continue
			}
			x := plainTables(4, 3, 3)
			x.Targets[i].Cell = cell
			rawIs(t, fmt.Sprint("cell ", cell, " but not in the rows"), x, cell == i)
			x.Dist[i][i] = -1
			if cell < 12 {
				x.Dist[i][cell] = 0
			}
			others := slices.DeleteFunc([]int{0, 1, 2}, func(n int) bool { return n == i })
			rawIs(t, fmt.Sprint("cell ", cell), x, cell < 12 && !slices.Contains(others, cell))
		}
	}
}

func TestDecodeImageOfHops(t *testing.T) {
	x := tablesFrom(t, "S 0 1< 2< / 1^ - 3^", "C 2> 1> 0 / - - 1^")
	rawIs(t, "as it is", x, true)
	for i := range x.Hop {
		for cell := range x.Hop[i] {
			for hop := -1; hop <= 7; hop++ {
				y := copyTables(x)
				y.Hop[i][cell] = hop
				ok := hop == x.Hop[i][cell] || hop == 4 && x.Hop[i][cell] == -1
				if decodesAsWanted(t, fmt.Sprint("hop ", hop, " at ", cell), rawImage(y)) != ok && (hop < 0 || hop > 3 || x.Hop[i][cell] < 0) {
					t.Errorf("hop %d at %d of %d: not %v", hop, cell, i, ok)
				}
				if hop > 4 {
					noImage(t, fmt.Sprint("hop ", hop, " at ", cell), rawImage(y))
				}
			}
		}
	}
	// six hops leave six bits over
	image := rawImage(x)
	hops := 10 + 5 + 5 + 2
	for bit := 2; bit < 8; bit++ {
		noImage(t, fmt.Sprint("left over bit ", bit), changed(image, hops, image[hops]|1<<bit))
		noImage(t, fmt.Sprint("left over bit ", bit, " of the second"), changed(image, hops+15, image[hops+15]|1<<bit))
	}
	for cells := 1; cells <= 9; cells++ {
		image := rawImage(plainTables(cells, 1, 1))
		last := 15 + (3*cells+7)/8 - 1
		for bit := range 8 {
			if 8*(last-15)+bit >= 3*cells {
				noImage(t, fmt.Sprint(cells, " cells, left over bit ", bit), changed(image, last, image[last]|1<<bit))
			}
		}
	}
}

func TestDecodeImageOfSteps(t *testing.T) {
	good := func(routes ...string) {
		t.Helper()
		for _, route := range routes {
			rawIs(t, route, tablesFrom(t, route), true)
		}
	}
	bad := func(routes ...string) {
		t.Helper()
		for _, route := range routes {
			rawIs(t, route, tablesFrom(t, route), false)
		}
	}
	good("S 0 1<", "S 0 65534<", "S 0 -", "S 0 1< 3<", "S 0 65533< 65534<", "S 0 1< / 2^ 2^", "S 0 9v / 1^ 8<")
	// 0 for a cell that is no target
	bad("S 0 0<", "S 0 1< 0<")
	// out of the grid, also where the next cell by number would be nearer
	bad("S 0 1^", "S 0 1v", "S 0 1>", "S 1^ 0", "S 1< 0", "S 0 / 1<", "S 0 1< / 2< 2^", "S 2> 1> / 0 1<", "S - 1> / 0 -", "S - 0 / 1< -")
	// to a cell without a way, to one as far or farther
	bad("S 0 1> -", "S 0 - 2<", "S 0 1v / - -", "S 0 1< 1<", "S 0 2< 1<", "S 0 65534< 65534<", "S 0 2> 1<", "S 1> 2> 3> 0")
	// round in a circle
	bad("S 0 - - / - 1> 2v / - 4^ 3<", "S 0 - - / - 4> 3v / - 5^ 2<")
	x := tablesFrom(t, "S 0 1< -")
	for change, ok := range map[[3]int]bool{
		{0, 0, -1}: true, {0, 1, -1}: false, {0, 65534, -1}: false, {0, -1, -1}: false, {0, 0, 0}: false, {0, 0, 1}: false, {0, 0, 2}: false, {0, 0, 3}: false, {0, -1, 1}: false,
		{1, 1, 3}: true, {1, 65534, 3}: true, {1, -1, 3}: false, {1, -1, -1}: true, {1, 1, -1}: false, {1, 65534, -1}: false, {1, 0, -1}: false, {1, 0, 3}: false, {1, 1, 1}: false,
		{2, 2, 3}: true, {2, 1, 3}: false, {2, 65534, 3}: true, {2, -1, 3}: false, {2, -1, 0}: false, {2, 5, -1}: false, {2, 0, -1}: false, {2, 256, 1}: false,
	} {
		y := copyTables(x)
		y.Dist[0][change[0]], y.Hop[0][change[0]] = change[1], change[2]
		rawIs(t, fmt.Sprint("cell ", change[0], " with Dist ", change[1], " and Hop ", change[2]), y, ok)
	}
}

// For each Dist and Hop of each cell that can be written.
func TestDecodeImageOfAllSmallTables(t *testing.T) {
	taken := 0
	compare := func(w, h int, dists, hops []int) {
		allTables(w, h, dists, hops, func(x impl.Tables) {
			if decodesAsWanted(t, tablesText(x), rawImage(x)) {
				taken++
			}
		})
	}
	compare(1, 1, []int{-1, 0, 1, 2, 255, 256, 65534}, span(-1, 7))
	compare(2, 1, []int{-1, 0, 1, 2, 65534}, span(0, 7))
	compare(1, 2, []int{-1, 0, 1, 2, 65534}, span(0, 7))
	compare(3, 1, []int{-1, 0, 1, 2}, []int{-1, 1, 3, 6})
	compare(2, 2, []int{-1, 0, 1}, []int{-1, 0, 1, 2, 3})
	if taken < 50 {
		t.Errorf("only %d are taken", taken)
	}
}

func TestDecodeImageOfSpoiltTables(t *testing.T) {
	taken, refused := 0, 0
	for seed := range int64(3000) {
		w := newSurveyor(263000 + seed)
		x := w.tables(5)
		for range 4 {
			y := copyTables(x)
			w.spoilTables(&y)
			if decodesAsWanted(t, tablesText(y), rawImage(y)) {
				taken++
			} else {
				refused++
			}
		}
		image := rawImage(x)
		for range 4 {
			image[w.r.Intn(len(image)-4)] = pick(w.r, 0, 1, 2, 4, 40, 128, 255, byte(w.r.Intn(256)))
			decodesAsWanted(t, tablesText(x)+" with other bytes", resealed(image))
		}
		if t.Failed() {
			return
		}
	}
	if taken < 1000 || refused < 3000 {
		t.Errorf("%d are taken, %d are not: too few of one sort", taken, refused)
	}
}

func TestDecodeImageOfMadeBytes(t *testing.T) {
	for seed := range int64(20000) {
		w := newSurveyor(270000 + seed)
		b := make([]byte, w.r.Intn(60))
		for i := range b {
			b[i] = pick(w.r, 0, 0, 1, 1, 2, 3, 'a', 255, byte(w.r.Intn(256)))
		}
		noImage(t, "made bytes", b)
		decodesAsWanted(t, "made bytes with a checksum", sealed(b))
		decodesAsWanted(t, "made bytes with a sign and a checksum", sealed(append([]byte("WHL1"), b...)))
		if t.Failed() {
			return
		}
	}
}

// Heads that speak of much, with few bytes behind them.
func TestDecodeImageAsksForLittle(t *testing.T) {
	for _, w := range []int{0, 1, 40, 41, 256, 32768, 65535} {
		for _, h := range []int{0, 1, 40, 41, 65535} {
			for _, targets := range []int{0, 1, 30, 31, 255, 256, 65535} {
				for _, rest := range [][]byte{nil, {0}, {0, 0, 0, 1, 'a'}, {1, 0, 0, 255}, make([]byte, 20), bytes.Repeat([]byte{0, 0, 0, 1, 'a'}, 30), bytes.Repeat([]byte{255}, 150)} {
					head := []byte{'W', 'H', 'L', '1', byte(w), byte(w >> 8), byte(h), byte(h >> 8), byte(targets), byte(targets >> 8)}
					b := sealed(append(head, rest...))
					what := fmt.Sprint(w, " by ", h, ", ", targets, " targets and ", len(rest), " bytes")
					if targets > 0 || len(rest) > 0 {
						noImage(t, what, b)
					}
					if asked := allocated(func() { impl.DecodeImage(b) }); asked > 20000 {
						t.Errorf("%s: %d bytes of memory", what, asked)
					}
				}
			}
		}
	}
	if asked := allocated(func() { impl.DecodeImage(nil) }); asked > 20000 {
		t.Errorf("no bytes: %d bytes of memory", asked)
	}
}

func TestDecodeImageIsNewMemory(t *testing.T) {
	for _, x := range smallTables(t) {
		what := tablesText(x)
		want := wantImage(x)
		image := append(bytes.Clone(want), "behind"...)[:len(want)]
		first, _ := impl.DecodeImage(image)
		second, code := impl.DecodeImage(image)
		behindName(t, what, image)
		if code != impl.CodeOK || !bytes.Equal(image, want) {
			t.Errorf("%s: %d, %s", what, code, imageText(image))
		}
		shareNone(t, what, slices.Concat([]extent{extentOf(image)}, tablesExtents(first), tablesExtents(second)))
		clear(image[:cap(image)])
		wipeTables(first)
		if !sameTables(second, x) {
			t.Errorf("%s: the tables hang on the image or on another answer", what)
		}
		decodesTo(t, what+" again", want, x)
		noImage(t, "a sum that is not right", append(want[:len(want)-1:len(want)-1], want[len(want)-1]+1))
		decodesTo(t, what+" after a refusal", want, x)
	}
}
