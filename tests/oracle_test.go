package tests

import (
	"regexp"
	"strconv"
	"strings"

	"loop.example/s02126/impl"
)

// byteRange is a row of the standard's table of well-formed UTF-8: the bytes that may stand at one place.
type byteRange struct{ low, high byte }

var tail = byteRange{0x80, 0xbf}

var forms = [][]byteRange{
	{{0x00, 0x7f}},
	{{0xc2, 0xdf}, tail},
	{{0xe0, 0xe0}, {0xa0, 0xbf}, tail},
	{{0xe1, 0xec}, tail, tail},
	{{0xed, 0xed}, {0x80, 0x9f}, tail},
	{{0xee, 0xef}, tail, tail},
	{{0xf0, 0xf0}, {0x90, 0xbf}, tail, tail},
	{{0xf1, 0xf3}, tail, tail, tail},
	{{0xf4, 0xf4}, {0x80, 0x8f}, tail, tail},
}

// formSize answers the size of the character that begins at a place, or 0.
func formSize(rest []byte) int {
	for _, form := range forms {
		if fits(form, rest) {
			return len(form)
		}
	}
	return 0
}

func fits(form []byteRange, rest []byte) bool {
	if len(rest) < len(form) {
		return false
	}
	for i, r := range form {
		if rest[i] < r.low || rest[i] > r.high {
			return false
		}
	}
	return true
}

func wantCheck(b []byte) (int, int) {
	for at := 0; at < len(b); {
		size := formSize(b[at:])
		if size == 0 {
			return impl.CodeLex, at
		}
		at += size
	}
	return impl.CodeOK, 0
}

func wantPosition(b []byte, at int) (int, int) {
	if at < 0 || at > len(b) {
		return 0, 0
	}
	line, col := 1, 1
	for i := 0; i < at; {
		size := max(formSize(b[i:]), 1)
		if i+size > at {
			break
		}
		if b[i] == 10 {
			line, col = line+1, 1
		} else {
			col++
		}
		i += size
	}
	return line, col
}

// encode writes a number of up to 21 bits in the form of size bytes, whether it is the shortest one or not.
func encode(n int, size int) []byte {
	lead := []byte{0, 0x00, 0xc0, 0xe0, 0xf0}
	b := make([]byte, size)
	for i := size - 1; i > 0; i-- {
		b[i] = 0x80 | byte(n&0x3f)
		n >>= 6
	}
	b[0] = lead[size] | byte(n)
	return b
}

func shortest(n int) []byte {
	switch {
	case n < 0x80:
		return encode(n, 1)
	case n < 0x800:
		return encode(n, 2)
	case n < 0x10000:
		return encode(n, 3)
	}
	return encode(n, 4)
}

var (
	literalForm = regexp.MustCompile(`^"(?:[^"\\\n]|\\["\\]|\\u\{[0-9A-Fa-f]{1,6}\})*"`)
	escapeForm  = regexp.MustCompile(`\\(?:["\\]|u\{([0-9A-Fa-f]{1,6})\})`)
	gapForm     = regexp.MustCompile(`^(?:[ \t\r\n]|//[^\n]*|/\*(?s:.*?)\*/)+`)
	runForm     = regexp.MustCompile(`^[0-9A-Za-z_]+`)
	digitsForm  = regexp.MustCompile(`^0*[0-9]{1,5}$`)
	signForm    = regexp.MustCompile(`^(?:==|!=|<=|>=|&&|\|\||[(){},;=<>&+\-*/%!])`)
)

const words = "macro int text let call for to if else grid wall open lane gate bar zone cost station charger at true false north east south west"

const signs = "== != <= >= && || ( ) { } , ; = < > & + - * / % !"

// wantLiteral answers the literal with which a well-formed text begins and what it stands for, or false.
func wantLiteral(text string) (string, string, bool) {
	literal := literalForm.FindString(text)
	if literal == "" {
		return "", "", false
	}
	good := true
	value := escapeForm.ReplaceAllStringFunc(literal[1:len(literal)-1], func(e string) string {
		if e[1] != 'u' {
			return e[1:]
		}
		n, _ := strconv.ParseInt(e[3:len(e)-1], 16, 64)
		if n > 0x10ffff || n >= 0xd800 && n <= 0xdfff {
			good = false
			return ""
		}
		return string(shortest(int(n)))
	})
	return literal, value, good
}

func wantLex(src string) ([]impl.Token, int, int) {
	if len(src) > 5000 {
		return nil, impl.CodeSize, 5000
	}
	if code, at := wantCheck([]byte(src)); code != impl.CodeOK {
		return nil, code, at
	}
	var toks []impl.Token
	for at := 0; at < len(src); {
		rest := src[at:]
		if gap := gapForm.FindString(rest); gap != "" {
			at += len(gap)
			continue
		}
		kind, size := wantToken(rest)
		if size == 0 {
			return nil, impl.CodeLex, at
		}
		toks = append(toks, impl.Token{Kind: kind, At: at, Len: size})
		at += size
	}
	return toks, impl.CodeOK, 0
}

func wantToken(rest string) (int, int) {
	run := runForm.FindString(rest)
	switch {
	case strings.HasPrefix(rest, "/*"):
		return 0, 0
	case rest[0] == '"':
		if literal, _, ok := wantLiteral(rest); ok {
			return impl.TokText, len(literal)
		}
		return 0, 0
	case run == "":
		return impl.TokSign, len(signForm.FindString(rest))
	case run[0] >= '0' && run[0] <= '9':
		if digitsForm.MatchString(run) {
			return impl.TokInt, len(run)
		}
		return 0, 0
	case strings.Contains(" "+words+" ", " "+run+" "):
		return impl.TokWord, len(run)
	}
	return impl.TokName, len(run)
}

// everyRow visits all rows of up to most pieces, put behind one another.
func everyRow(pieces []string, most int, visit func(string)) {
	var grow func(string, int)
	grow = func(row string, left int) {
		visit(row)
		if left == 0 {
			return
		}
		for _, p := range pieces {
			grow(row+p, left-1)
		}
	}
	grow("", most)
}
