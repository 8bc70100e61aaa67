package tests

import (
	"bytes"
	"encoding/binary"
	"fmt"
	"runtime"
	"slices"
	"strconv"
	"strings"
	"testing"

	"loop.example/s02126/impl"
)

// hopSigns are the three bits of each hop, the lowest first.
var hopSigns = map[int]string{-1: "001", 0: "000", 1: "100", 2: "010", 3: "110"}

// bitsOf shows bytes bit by bit, the lowest of the first byte first.
func bitsOf(b []byte) string {
	var out strings.Builder
	for _, c := range b {
		for n := range 8 {
			out.WriteString(strconv.Itoa(int(c) >> n % 2))
		}
	}
	return out.String()
}

// fromBits answers the bytes with these bits, and with 0 for those that are left over.
func fromBits(bits string) []byte {
	var out []byte
	for ; len(bits)%8 != 0; bits += "0" {
	}
	for ; bits != ""; bits = bits[8:] {
		turned := []byte(bits[:8])
		slices.Reverse(turned)
		n, _ := strconv.ParseUint(string(turned), 2, 8)
		out = append(out, byte(n))
	}
	return out
}

func wantPack(hops []int) ([]byte, int) {
	var bits strings.Builder
	for _, hop := range hops {
		sign, ok := hopSigns[hop]
		if !ok {
			return nil, impl.CodeBad
		}
		bits.WriteString(sign)
	}
	return fromBits(bits.String()), impl.CodeOK
}

func wantUnpack(b []byte, n int) ([]int, int) {
	if n < 0 {
		return nil, impl.CodeBad
	}
	bits := bitsOf(b)
	var hops []int
	for len(hops) < n {
		read := len(hops)
		for hop, sign := range hopSigns {
			if rest, ok := strings.CutPrefix(bits, sign); ok {
				hops, bits = append(hops, hop), rest
				break
			}
		}
		if len(hops) == read {
			return nil, impl.CodeCorrupt
		}
	}
	if len(bits) > 7 || strings.Contains(bits, "1") {
		return nil, impl.CodeCorrupt
	}
	return hops, impl.CodeOK
}

// wantSum takes the eight steps of each byte as the document has them.
func wantSum(b []byte) uint32 {
	h := uint64(0xffffffff)
	for _, c := range b {
		h ^= uint64(c)
		for range 8 {
			if h&1 != 0 {
				h = h>>1 ^ 0xedb88320
			} else {
				h >>= 1
			}
		}
	}
	return uint32(h ^ 0xffffffff)
}

// sealed answers the bytes with their checksum behind them.
func sealed(body []byte) []byte {
	return binary.LittleEndian.AppendUint32(slices.Clone(body), wantSum(body))
}

// resealed answers an image that has been changed with the checksum of what stands ahead of its last four bytes.
func resealed(image []byte) []byte { return sealed(image[:len(image)-4]) }

// rawImage writes tables whether they are valid or not. Hops from 4 to 7 are written as they are.
func rawImage(x impl.Tables) []byte {
	u16 := binary.LittleEndian.AppendUint16
	out := []byte("WHL1")
	out = u16(u16(u16(out, uint16(x.W)), uint16(x.H)), uint16(len(x.Targets)))
	for _, target := range x.Targets {
		out = u16(append(out, byte(target.Kind)), uint16(target.Cell))
		out = append(append(out, byte(len(target.Name))), target.Name...)
	}
	for i := range max(len(x.Dist), len(x.Hop)) {
		if i < len(x.Hop) {
			var bits strings.Builder
			for _, hop := range x.Hop[i] {
				if sign, ok := hopSigns[hop]; ok {
					bits.WriteString(sign)
				} else {
					bits.WriteString(bitsOf([]byte{byte(hop)})[:3])
				}
			}
			out = append(out, fromBits(bits.String())...)
		}
		if i < len(x.Dist) {
			for _, dist := range x.Dist[i] {
				out = u16(out, uint16(dist))
			}
		}
	}
	return sealed(out)
}

func wantImage(x impl.Tables) []byte {
	if !wantValidTables(x) {
		return nil
	}
	return rawImage(x)
}

// wantDecode reads on as long as there is something, and takes only what is written so.
func wantDecode(b []byte) (x impl.Tables, code int) {
	none := func() { x, code = impl.Tables{}, impl.CodeCorrupt }
	defer func() {
		if recover() != nil {
			none()
		}
	}()
	rest := b[4:]
	cut := func(n int) []byte {
		first := rest[:n:n]
		rest = rest[n:]
		return first
	}
	u16 := func() int { return int(binary.LittleEndian.Uint16(cut(2))) }
	x.W, x.H = u16(), u16()
	for range u16() {
		target := impl.Target{Kind: int(cut(1)[0]), Cell: u16()}
		target.Name = cut(int(cut(1)[0]))
		x.Targets = append(x.Targets, target)
	}
	for range x.Targets {
		hop, _ := wantUnpack(cut((3*x.W*x.H+7)/8), x.W*x.H)
		var dist []int
		for range x.W * x.H {
			n := u16()
			if n == 65535 {
				n = -1
			}
			dist = append(dist, n)
		}
		x.Hop, x.Dist = append(x.Hop, hop), append(x.Dist, dist)
	}
	if len(b) == 0 || !bytes.Equal(wantImage(x), b) {
		none()
	}
	return x, code
}

// wantSize is what the document's promise says of the size of an image.
func wantSize(x impl.Tables) int {
	size, cells := 14, x.W*x.H
	for _, target := range x.Targets {
		size += 4 + len(target.Name)
		size += (3*cells + 7) / 8
		size += 2 * cells
	}
	return size
}

func imageText(b []byte) string {
	if len(b) > 100 {
		return fmt.Sprintf("%d bytes, at first %x", len(b), b[:60])
	}
	return fmt.Sprintf("%x", b)
}

// imageOf answers the image of valid tables, which it wants to be as the document has it, and to mean these tables.
func imageOf(t *testing.T, what string, x impl.Tables) []byte {
	t.Helper()
	before := copyTables(x)
	image := impl.EncodeImage(x)
	if want := wantImage(x); !bytes.Equal(image, want) || len(want) == 0 {
		t.Errorf("EncodeImage(%s): %s, not %s", what, imageText(image), imageText(want))
	}
	if len(image) != wantSize(x) {
		t.Errorf("EncodeImage(%s): %d bytes, not %d", what, len(image), wantSize(x))
	}
	if !sameTables(x, before) {
		t.Errorf("EncodeImage(%s) writes into the tables", what)
	}
	decodesTo(t, what, image, x)
	return image
}

func decodesTo(t *testing.T, what string, image []byte, want impl.Tables) {
	t.Helper()
	before := bytes.Clone(image)
	got, code := impl.DecodeImage(image)
	if code != impl.CodeOK || !sameTables(got, want) {
		t.Errorf("DecodeImage(%s, %s): %s, %d, not %s", what, imageText(image), tablesText(got), code, tablesText(want))
	}
	if !bytes.Equal(image, before) {
		t.Errorf("DecodeImage(%s) writes into the image", what)
	}
}

// noImage wants bytes to be refused as no image.
func noImage(t *testing.T, what string, b []byte) {
	t.Helper()
	before := bytes.Clone(b)
	got, code := impl.DecodeImage(b)
	if code != impl.CodeCorrupt || !sameTables(got, impl.Tables{}) {
		t.Errorf("DecodeImage(%s, %s): %s, %d", what, imageText(b), tablesText(got), code)
	}
	if !bytes.Equal(b, before) {
		t.Errorf("DecodeImage(%s) writes into the bytes", what)
	}
}

// decodesAsWanted holds DecodeImage of any bytes against the document, and answers whether they are an image.
func decodesAsWanted(t *testing.T, what string, b []byte) bool {
	t.Helper()
	want, code := wantDecode(b)
	if code != impl.CodeOK {
		noImage(t, what, b)
		return false
	}
	decodesTo(t, what, b, want)
	return true
}

// allocated answers how many bytes of memory a call asks for, itself and below it.
func allocated(call func()) int {
	var before, after runtime.MemStats
	runtime.ReadMemStats(&before)
	call()
	runtime.ReadMemStats(&after)
	return int(after.TotalAlloc - before.TotalAlloc)
}
