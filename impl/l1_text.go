package impl

import (
	"bytes"
	"iter"
	"strconv"
	"strings"
	"unicode/utf8"
)

const (
	CodeOK      = 0
	CodeBad     = 1
	CodeLex     = 2
	CodeParse   = 3
	CodeSize    = 4
	CodeName    = 5
	CodeType    = 6
	CodeLimit   = 7
	CodeValue   = 8
	CodeCorrupt = 9
	CodeLost    = 10
	CodeEnd     = 11
	CodeStuck   = 12
)

const (
	TokName = 1
	TokWord = 2
	TokInt  = 3
	TokText = 4
	TokSign = 5
)

const (
	MaxSource = 5000
	MaxNumber = 99999
	MaxText   = 60
	MaxIdent  = 30
)

// Token is a piece of a source.
type Token struct {
	Kind int
	At   int
	Len  int
}

// The kinds of pieces into which a source is cut; those before pieceRun are no tokens.
const (
	pieceBlank = iota
	pieceLineComment
	pieceBlockComment
	pieceRun
	pieceNumber
	pieceLiteral
	pieceSign
)

func CheckText(b []byte) (int, int) {
	text := string(b)
	for at, r := range text {
		if r == utf8.RuneError && isBroken(text[at:]) {
			return CodeLex, at
		}
	}
	return CodeOK, 0
}

// isBroken is needed because ranging gives RuneError both for a byte that begins no character and for a real U+FFFD.
func isBroken(rest string) bool {
	_, size := utf8.DecodeRuneInString(rest)
	return size == 1
}

func Position(b []byte, at int) (int, int) {
	if at < 0 || at > len(b) {
		return 0, 0
	}
	line := 1 + bytes.Count(b[:at], []byte{'\n'})
	start := 1 + bytes.LastIndexByte(b[:at], '\n')
	return line, column(string(b[start:]), at-start)
}

// column counts the beginnings of characters up to at, as each is the end of the character before it. The LF that is
// put behind the text stands for the end of the last one; it can complete no character that is cut off.
func column(text string, at int) int {
	n := 0
	for begin := range text + "\n" {
		if begin > at {
			break
		}
		n++
	}
	return n
}

func QuoteText(b []byte) []byte {
	if code, _ := CheckText(b); code != CodeOK {
		return nil
	}
	out := []byte{'"'}
	for _, r := range string(b) {
		out = appendQuoted(out, r)
	}
	return append(out, '"')
}

func appendQuoted(out []byte, r rune) []byte {
	if r == '"' || r == '\\' {
		return append(out, '\\', byte(r))
	}
	if r < 32 || r == 127 {
		out = append(out, `\u{`...)
		out = strconv.AppendInt(out, int64(r), 16)
		return append(out, '}')
	}
	return utf8.AppendRune(out, r)
}

func UnquoteText(b []byte) ([]byte, int) {
	if code, _ := CheckText(b); code != CodeOK {
		return nil, CodeLex
	}
	value, size := readLiteral(string(b))
	if size == 0 || size != len(b) {
		return nil, CodeLex
	}
	return value, CodeOK
}

// readLiteral answers the text and the size of the literal with which a well-formed text begins, or size 0.
func readLiteral(text string) ([]byte, int) {
	if !strings.HasPrefix(text, `"`) {
		return nil, 0
	}
	var value []byte
	for at := 1; at < len(text); {
		if text[at] == '"' {
			return value, at + 1
		}
		r, size := readCharacter(text[at:])
		if size == 0 {
			return nil, 0
		}
		value = utf8.AppendRune(value, r)
		at += size
	}
	return nil, 0
}

// readCharacter answers what a literal's character stands for, and its size, or size 0; readLiteral takes the closing
// quote before.
func readCharacter(rest string) (rune, int) {
	r, size := utf8.DecodeRuneInString(rest)
	switch r {
	case '\n':
		return 0, 0
	case '\\':
		return readEscape(rest)
	}
	return r, size
}

func readEscape(rest string) (rune, int) {
	if strings.HasPrefix(rest, `\"`) {
		return '"', 2
	}
	if strings.HasPrefix(rest, `\\`) {
		return '\\', 2
	}
	inside, opened := strings.CutPrefix(rest, `\u{`)
	digits, _, closed := strings.Cut(inside, "}")
	if !opened || !closed || len(digits) > 6 {
		return 0, 0
	}
	n, err := strconv.ParseUint(digits, 16, 32)
	if err != nil || !utf8.ValidRune(rune(n)) {
		return 0, 0
	}
	return rune(n), len(`\u{`) + len(digits) + len("}")
}

func Lex(src []byte) ([]Token, int, int) {
	if len(src) > MaxSource {
		return nil, CodeSize, MaxSource
	}
	if code, at := CheckText(src); code != CodeOK {
		return nil, code, at
	}
	var toks []Token
	for tok, ok := range scan(string(src)) {
		if !ok {
			return nil, CodeLex, tok.At
		}
		toks = append(toks, tok)
	}
	return toks, CodeOK, 0
}

// scan goes through the tokens of a well-formed source; where none can be read it gives the place with false, and ends.
func scan(src string) iter.Seq2[Token, bool] {
	return func(yield func(Token, bool) bool) {
		for at := 0; at < len(src); {
			kind := pieceKind(src[at:])
			size := pieceSize(kind, src[at:])
			if size == 0 {
				yield(Token{At: at}, false)
				return
			}
			if kind >= pieceRun {
				tok := Token{Kind: tokenKind(kind, src[at:at+size]), At: at, Len: size}
				if !yield(tok, true) {
					return
				}
			}
			at += size
		}
	}
}

// pieceKind answers what a piece that begins here would have to be; whether there is one is left to pieceSize.
func pieceKind(rest string) int {
	r, _ := utf8.DecodeRuneInString(rest)
	switch {
	case r == ' ' || r == '\t' || r == '\r' || r == '\n':
		return pieceBlank
	case strings.HasPrefix(rest, "//"):
		return pieceLineComment
	case strings.HasPrefix(rest, "/*"):
		return pieceBlockComment
	case isDigit(r):
		return pieceNumber
	case isRunRune(r):
		return pieceRun
	case r == '"':
		return pieceLiteral
	}
	return pieceSign
}

// pieceSize answers 0 where no piece of this kind can be read.
func pieceSize(kind int, rest string) int {
	switch kind {
	case pieceBlank:
		return 1
	case pieceLineComment:
		return lineCommentSize(rest)
	case pieceBlockComment:
		return blockCommentSize(rest)
	case pieceRun:
		return runSize(rest)
	case pieceNumber:
		return numberSize(rest)
	case pieceLiteral:
		_, size := readLiteral(rest)
		return size
	}
	return signSize(rest)
}

func lineCommentSize(rest string) int {
	if end := strings.IndexByte(rest, '\n'); end >= 0 {
		return end
	}
	return len(rest)
}

// blockCommentSize looks for the end behind the two bytes of the beginning, so that they share no star.
func blockCommentSize(rest string) int {
	end := strings.Index(rest[len("/*"):], "*/")
	if end < 0 {
		return 0
	}
	return len("/*") + end + len("*/")
}

func runSize(rest string) int {
	for at, r := range rest {
		if !isRunRune(r) {
			return at
		}
	}
	return len(rest)
}

// numberSize takes the run as a whole, so that digits with letters behind them are no number.
func numberSize(rest string) int {
	size := runSize(rest)
	n, err := strconv.Atoi(rest[:size])
	if err != nil || n > MaxNumber {
		return 0
	}
	return size
}

func signSize(rest string) int {
	if len(rest) >= 2 {
		switch rest[:2] {
		case "==", "!=", "<=", ">=", "&&", "||":
			return 2
		}
	}
	if strings.IndexByte("(){},;=<>&+-*/%!", rest[0]) >= 0 {
		return 1
	}
	return 0
}

func tokenKind(kind int, piece string) int {
	switch kind {
	case pieceNumber:
		return TokInt
	case pieceLiteral:
		return TokText
	case pieceSign:
		return TokSign
	}
	if isWord(piece) {
		return TokWord
	}
	return TokName
}

func isWord(run string) bool {
	switch run {
	case "macro", "int", "text", "let", "call", "for", "to", "if", "else", "grid", "wall", "open", "lane", "gate", "bar",
		"zone", "cost", "station", "charger", "at", "true", "false", "north", "east", "south", "west":
		return true
	}
	return false
}

func isDigit(r rune) bool {
	return r >= '0' && r <= '9'
}

func isRunRune(r rune) bool {
	return isDigit(r) || r >= 'A' && r <= 'Z' || r >= 'a' && r <= 'z' || r == '_'
}
