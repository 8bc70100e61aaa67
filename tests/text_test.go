package tests

import (
	"bytes"
	"strings"
	"testing"

	"loop.example/s02126/impl"
)

func TestConstantsOfTexts(t *testing.T) {
	got := []int{
		impl.CodeOK, impl.CodeBad, impl.CodeLex, impl.CodeParse, impl.CodeSize, impl.CodeName, impl.CodeType,
		impl.CodeLimit, impl.CodeValue, impl.CodeCorrupt, impl.CodeLost, impl.CodeEnd, impl.CodeStuck,
	}
	for i, code := range got {
		if code != i {
			t.Errorf("code %d is %d", i, code)
		}
	}
	for i, kind := range []int{impl.TokName, impl.TokWord, impl.TokInt, impl.TokText, impl.TokSign} {
		if kind != i+1 {
			t.Errorf("kind %d is %d", i+1, kind)
		}
	}
	limits := []int{impl.MaxSource, impl.MaxNumber, impl.MaxText, impl.MaxIdent}
	for i, want := range []int{5000, 99999, 60, 30} {
		if limits[i] != want {
			t.Errorf("limit %d is %d", want, limits[i])
		}
	}
}

func checkTextAs(t *testing.T, text string, code, at int) {
	t.Helper()
	if c, a := impl.CheckText([]byte(text)); c != code || a != at {
		t.Errorf("CheckText(%q): %d at %d, not %d at %d", text, c, a, code, at)
	}
}

func TestCheckTextTakesEveryCodePoint(t *testing.T) {
	for n := 0; n <= 0x10ffff; n++ {
		text := shortest(n)
		code, at := impl.CheckText(text)
		surrogate := n >= 0xd800 && n <= 0xdfff
		if at != 0 || surrogate != (code == impl.CodeLex) || !surrogate && code != impl.CodeOK {
			t.Fatalf("%#x: %d at %d", n, code, at)
		}
	}
}

func TestCheckTextEdges(t *testing.T) {
	for _, n := range []int{0, 0x7f, 0x80, 0x7ff, 0x800, 0xd7ff, 0xe000, 0xfffd, 0xfffe, 0xffff, 0x10000, 0x10ffff} {
		c := string(shortest(n))
		checkTextAs(t, c, impl.CodeOK, 0)
		checkTextAs(t, "a"+c+"€"+c, impl.CodeOK, 0)
		checkTextAs(t, "a"+c+"\xff", impl.CodeLex, 1+len(c))
		for cut := 1; cut < len(c); cut++ {
			checkTextAs(t, "å"+c[:cut], impl.CodeLex, 2)
			checkTextAs(t, "å"+c[:cut]+"a", impl.CodeLex, 2)
			checkTextAs(t, "å"+c[:cut]+"\xc3\xa5", impl.CodeLex, 2)
			checkTextAs(t, "å"+c[cut:], impl.CodeLex, 2)
		}
	}
	checkTextAs(t, "", impl.CodeOK, 0)
	checkTextAs(t, "\ufffd\xff", impl.CodeLex, 3)
	checkTextAs(t, "\ufffd\xef\xbf", impl.CodeLex, 3)
	if code, at := impl.CheckText(nil); code != impl.CodeOK || at != 0 {
		t.Errorf("nil: %d at %d", code, at)
	}
}

func TestCheckTextRefusesOtherForms(t *testing.T) {
	for _, n := range []int{0, 1, 10, 0x2f, 0x7f} {
		checkTextAs(t, "ab"+string(encode(n, 2)), impl.CodeLex, 2)
		checkTextAs(t, "ab"+string(encode(n, 3)), impl.CodeLex, 2)
		checkTextAs(t, "ab"+string(encode(n, 4)), impl.CodeLex, 2)
	}
	for _, n := range []int{0x80, 0x7ff} {
		checkTextAs(t, "å"+string(encode(n, 3)), impl.CodeLex, 2)
		checkTextAs(t, "å"+string(encode(n, 4)), impl.CodeLex, 2)
	}
	for _, n := range []int{0x800, 0xd800, 0xffff, 0x110000, 0x13ffff, 0x1fffff} {
		checkTextAs(t, "€"+string(encode(n, 4)), impl.CodeLex, 3)
	}
	for _, n := range []int{0xd800, 0xdbff, 0xdc00, 0xdfff} {
		checkTextAs(t, "a"+string(encode(n, 3))+"b", impl.CodeLex, 1)
	}
	checkTextAs(t, "\xed\xa0\xbd\xed\xb8\x80", impl.CodeLex, 0)
	for lead := 0x80; lead <= 0xff; lead++ {
		if lead >= 0xc2 && lead <= 0xf4 {
			continue
		}
		checkTextAs(t, "😀"+string([]byte{byte(lead), 0x80, 0x80, 0x80, 0x80, 0x80}), impl.CodeLex, 4)
	}
}

func compareCheck(t *testing.T, b []byte) {
	code, at := impl.CheckText(b)
	if c, a := wantCheck(b); code != c || at != a {
		t.Fatalf("CheckText(%q): %d at %d, not %d at %d", b, code, at, c, a)
	}
}

func TestCheckTextOfAllShortTexts(t *testing.T) {
	for n := 0; n < 1<<16; n++ {
		compareCheck(t, []byte{byte(n)})
		compareCheck(t, []byte{byte(n >> 8), byte(n)})
		for lead := 0xdf; lead <= 0xf0; lead++ {
			compareCheck(t, []byte{byte(lead), byte(n >> 8), byte(n)})
		}
	}
	edges := []byte{0x0a, 0x7f, 0x80, 0x8f, 0x90, 0xbf, 0xc0, 0xc3, 0xff}
	for lead := 0xee; lead <= 0xff; lead++ {
		for second := 0; second <= 0xff; second++ {
			for _, third := range edges {
				for _, fourth := range edges {
					compareCheck(t, []byte{byte(lead), byte(second), third, fourth})
				}
			}
		}
	}
}

func TestPositionCases(t *testing.T) {
	cases := []struct {
		text          string
		at, line, col int
	}{
		{"", 0, 1, 1}, {"", 1, 0, 0}, {"", -1, 0, 0}, {"a", 0, 1, 1}, {"a", 1, 1, 2}, {"a", 2, 0, 0}, {"a", -9, 0, 0},
		{"\n", 0, 1, 1}, {"\n", 1, 2, 1}, {"\n\n", 1, 2, 1}, {"\n\n", 2, 3, 1}, {"a\nb", 1, 1, 2}, {"a\nb", 2, 2, 1}, {"a\nb", 3, 2, 2},
		{"\r\n", 1, 1, 2}, {"\r\n", 2, 2, 1}, {"\t\tx", 2, 1, 3},
		{"å", 1, 1, 1}, {"å", 2, 1, 2}, {"€", 1, 1, 1}, {"€", 2, 1, 1}, {"€", 3, 1, 2}, {"😀a", 3, 1, 1}, {"😀a", 4, 1, 2}, {"😀a", 5, 1, 3},
		{"\ufffdx", 2, 1, 1}, {"\ufffdx", 3, 1, 2}, {"\n😀", 4, 2, 1}, {"\n😀", 5, 2, 2},
		{"\xff\xfe", 1, 1, 2}, {"\xff\xfe", 2, 1, 3}, {"\xe2\x82", 1, 1, 2}, {"\xe2\x82", 2, 1, 3}, {"\xe2\x82\nå", 3, 2, 1}, {"\xe2\x82\nå", 4, 2, 1}, {"\xe2\x82\nå", 5, 2, 2},
		{"\xc0\x8aå", 2, 1, 3}, {"\xed\xa0\x80", 3, 1, 4}, {"\xf4\x90\x80\x80", 4, 1, 5}, {"\xf0\x9f\x98", 3, 1, 4},
	}
	for _, c := range cases {
		if line, col := impl.Position([]byte(c.text), c.at); line != c.line || col != c.col {
			t.Errorf("Position(%q, %d): %d, %d, not %d, %d", c.text, c.at, line, col, c.line, c.col)
		}
	}
	most := int(^uint(0) >> 1)
	for _, at := range []int{most, -most - 1, -most, 4} {
		if line, col := impl.Position([]byte("abc"), at); line != 0 || col != 0 {
			t.Errorf("Position outside, %d: %d, %d", at, line, col)
		}
	}
}

func TestPositionOfAllShortTexts(t *testing.T) {
	pieces := []string{"a", "\n", "å", "\xc3", "\xa5", "\xe2", "\x82", "\xac", "\xff", "😀"}
	everyRow(pieces, 4, func(text string) {
		b := []byte(text)
		lastLine, lastCol := 0, 0
		for at := -1; at <= len(b)+1; at++ {
			line, col := impl.Position(b, at)
			if l, c := wantPosition(b, at); line != l || col != c {
				t.Fatalf("Position(%q, %d): %d, %d, not %d, %d", text, at, line, col, l, c)
			}
			if at <= len(b) && (line < lastLine || line == lastLine && col < lastCol) {
				t.Fatalf("Position(%q, %d): %d, %d is less than the one before", text, at, line, col)
			}
			lastLine, lastCol = line, col
		}
	})
}

func TestQuoteTextCases(t *testing.T) {
	cases := []struct{ text, want string }{
		{``, `""`}, {`a`, `"a"`}, {`"`, `"\""`}, {`\`, `"\\"`}, {`\"`, `"\\\""`}, {`'/*`, `"'/*"`}, {"\x00", `"\u{0}"`}, {"\x01", `"\u{1}"`}, {"\t", `"\u{9}"`}, {"\n", `"\u{a}"`}, {"\r", `"\u{d}"`}, {"\x10", `"\u{10}"`}, {"\x1f", `"\u{1f}"`}, {" ", `" "`}, {"~", `"~"`}, {"\x7f", `"\u{7f}"`},
		{"\u0080\u009f\u00a0", "\"\u0080\u009f\u00a0\""}, {"\u2028\ufeff\ufffd", "\"\u2028\ufeff\ufffd\""}, {"å€😀\U0010ffff", "\"å€😀\U0010ffff\""}, {`\u{41}`, `"\\u{41}"`},
		{"\xff", ""}, {"abc\xc3", ""}, {"\xed\xa0\x80", ""}, {"\xc0\x80", ""},
	}
	for _, c := range cases {
		if got := impl.QuoteText([]byte(c.text)); string(got) != c.want {
			t.Errorf("QuoteText(%q): %q, not %q", c.text, got, c.want)
		}
	}
}

func roundTrip(t *testing.T, text []byte) {
	quoted := impl.QuoteText(text)
	if code, _ := impl.CheckText(text); code != impl.CodeOK {
		if len(quoted) != 0 {
			t.Fatalf("QuoteText(%q): %q", text, quoted)
		}
		return
	}
	for _, c := range quoted {
		if c < 32 || c == 127 {
			t.Fatalf("QuoteText(%q) has the byte %d", text, c)
		}
	}
	if back, code := impl.UnquoteText(quoted); code != impl.CodeOK || !bytes.Equal(back, text) {
		t.Fatalf("%q there and back: %q, %d", text, back, code)
	}
}

func TestQuoteTextThereAndBack(t *testing.T) {
	for n := 0; n <= 0x10ffff; n++ {
		roundTrip(t, shortest(n))
	}
	pieces := []string{"\"", "\\", "u", "{", "41", "}", "\n", "\x00", "\x7f", "å", "😀", "\xff"}
	everyRow(pieces, 4, func(text string) { roundTrip(t, []byte(text)) })
	roundTrip(t, []byte(strings.Repeat("a\"\\\nå", 3000)))
}

func TestUnquoteTextCases(t *testing.T) {
	cases := []struct{ literal, want string }{
		{`""`, ""}, {`"a"`, "a"}, {`"\""`, `"`}, {`"\\"`, `\`}, {`"\\\""`, `\"`}, {`"'"`, "'"}, {`"//"`, "//"}, {"\"\x00\t\r\x1f\x7f\"", "\x00\t\r\x1f\x7f"}, {"\"å€😀\"", "å€😀"},
		{`"\u{0}"`, "\x00"}, {`"\u{a}"`, "\n"}, {`"\u{A}"`, "\n"}, {`"\u{0a}"`, "\n"}, {`"\u{00a}"`, "\n"}, {`"\u{000A}"`, "\n"}, {`"\u{0000a}"`, "\n"}, {`"\u{00000a}"`, "\n"}, {`"\u{000000}"`, "\x00"},
		{`"\u{22}\u{5c}\u{5C}"`, `"\\`}, {`"\u{e5}\u{E5}"`, "åå"}, {`"\u{20ac}\u{20aC}"`, "€€"}, {`"\u{1f600}\u{01F600}"`, "😀😀"}, {`"\u{d7ff}\u{E000}"`, "\ud7ff\ue000"}, {`"\u{fffd}\u{ffff}"`, "\ufffd\uffff"}, {`"\u{10FFFF}"`, "\U0010ffff"}, {`"\\u{41}"`, `\u{41}`}, {`"u{41}"`, `u{41}`}, {`"\u{41}}"`, `A}`},
	}
	for _, c := range cases {
		if got, code := impl.UnquoteText([]byte(c.literal)); code != impl.CodeOK || string(got) != c.want {
			t.Errorf("UnquoteText(%s): %q, %d, not %q", c.literal, got, code, c.want)
		}
	}
}

func TestUnquoteTextRefuses(t *testing.T) {
	for _, s := range []string{
		"", `"`, `a`, `"a`, `a"`, `a""`, ` ""`, `"" `, `"a"b`, `"a""b"`, `"""`, `'a'`, "\"\n\"", "\"a\nb\"", "\n", "\"\"\n",
		`"\"`, `"\`, `\"a"`, `"\\\"`, `"\a"`, `"\n"`, `"\'"`, `"\ "`, `"\U{41}"`, "\"\\\n\"", `"\å"`,
		`"\u"`, `"\u{"`, `"\u{}"`, `"\u41"`, `"\u{41"`, `"\u41}"`, `"\u{41"}`, `"\u {41}"`, `"\u{ 41}"`, `"\u{41 }"`, `"\u{+41}"`, `"\u{-1}"`, `"\u{4_1}"`, `"\u{0x4}"`, `"\u{g}"`, `"\u{å}"`, `"\u{G1}"`, `"\u{0000041}"`, `"\u{0000000}"`,
		`"\u{d800}"`, `"\u{DFFF}"`, `"\u{00dbff}"`, `"\u{dc00}"`, `"\u{d83d}\u{de00}"`, `"\u{110000}"`, `"\u{ffffff}"`,
		"\"\xff\"", "\"\xc3\"", "\"\xed\xa0\x80\"", "\"\xc0\x80\"", "\"a\"\xff", "\xff\"a\"", "\xef\xbb\xbf\"a\"",
	} {
		if got, code := impl.UnquoteText([]byte(s)); code != impl.CodeLex || len(got) != 0 {
			t.Errorf("UnquoteText(%q): %q, %d", s, got, code)
		}
	}
	if got, code := impl.UnquoteText(nil); code != impl.CodeLex || len(got) != 0 {
		t.Errorf("nil: %q, %d", got, code)
	}
}

func compareUnquote(t *testing.T, text string) {
	got, code := impl.UnquoteText([]byte(text))
	literal, value, ok := wantLiteral(text)
	if bad, _ := wantCheck([]byte(text)); bad != impl.CodeOK || literal != text {
		ok = false
	}
	if ok && (code != impl.CodeOK || string(got) != value) || !ok && (code != impl.CodeLex || len(got) != 0) {
		t.Fatalf("UnquoteText(%q): %q, %d", text, got, code)
	}
}

func TestUnquoteTextOfAllShortTexts(t *testing.T) {
	pieces := []string{"\"", "\\", "u{", "}", "0", "d8", "f", "\n", "å", "\xff", "g"}
	everyRow(pieces, 4, func(inside string) {
		compareUnquote(t, inside)
		compareUnquote(t, "\""+inside+"\"")
		compareUnquote(t, "\"\\u{"+inside+"}\"")
	})
}

func TestTextsAreNewMemory(t *testing.T) {
	for _, text := range []string{``, `a`, `"a"`, `"\u{41}å"`, "\"\xff\"", "a\nb", "\xe2\x82"} {
		memory := append([]byte(text), "\x82\xac\"tail"...)
		before := bytes.Clone(memory)
		arg := memory[:len(text)]
		code, at := impl.CheckText(arg)
		line, col := impl.Position(arg, len(text))
		quoted := impl.QuoteText(arg)
		value, unquoted := impl.UnquoteText(arg)
		if !bytes.Equal(memory, before) {
			t.Fatalf("%q: an argument was written into", text)
		}
		wantQuoted, wantValue := bytes.Clone(quoted), bytes.Clone(value)
		clear(memory)
		if !bytes.Equal(quoted, wantQuoted) || !bytes.Equal(value, wantValue) {
			t.Fatalf("%q: an answer hangs on its argument", text)
		}
		exact := []byte(text)
		if c, a := impl.CheckText(exact); c != code || a != at {
			t.Errorf("CheckText(%q) hangs on what lies behind", text)
		}
		if l, c := impl.Position(exact, len(text)); l != line || c != col {
			t.Errorf("Position(%q) hangs on what lies behind", text)
		}
		if v, c := impl.UnquoteText(exact); c != unquoted || !bytes.Equal(v, wantValue) {
			t.Errorf("UnquoteText(%q) hangs on what lies behind", text)
		}
	}
}
