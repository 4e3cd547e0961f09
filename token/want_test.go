package token_test

import (
	"encoding/json"
	"regexp"
	"strings"
	"unicode/utf8"

	"glossator/api"
	"glossator/token"
)

// whole is a token, but for the UTF-8 of a string.
var whole = regexp.MustCompile(`^(?:[\[\]{}:,]|null|true|false|-?(?:0|[1-9][0-9]*)(?:\.[0-9]+)?(?:[eE][+-]?[0-9]+)?|` +
	`"(?s:[^"\\\x00-\x1F]|\\["\\/bfnrt]|\\u[0-9abcefABCEF][0-9a-fA-F]{3}|` +
	`\\u[dD][0-7][0-9a-fA-F]{2}|\\u[dD][89abAB][0-9a-fA-F]{2}\\u[dD][c-fC-F][0-9a-fA-F]{2})*")$`)

// grammar tells which texts are tokens and which begin one, and remembers it.
type grammar struct {
	ends   []string
	begins map[string]struct{ known, is bool }
}

func newGrammar() *grammar {
	return &grammar{ends: endings(), begins: map[string]struct{ known, is bool }{}}
}

// endings are such that any beginning of a token is a whole one with one of
// them behind it.
func endings() []string {
	out := []string{"", "0", `"`, `""`, "\x80\"", "\x80\x80\"", "\x80\x80\x80\"", "\xA0\x80\"", "\x90\x80\x80\""}
	for _, s := range []string{"null", "true", "false"} {
		for i := range len(s) {
			out = append(out, s[i:])
		}
	}
	for _, s := range []string{`\uD800\uDC00"`, `\u0000"`, `\n"`} {
		for i := range len(s) {
			out = append(out, s[i:])
		}
	}
	return out
}

func isWhole(s string) bool {
	return utf8.ValidString(s) && whole.MatchString(s)
}

// canBegin tells whether a token can begin with s.
func (g *grammar) canBegin(s string) bool {
	told := g.begins[s]
	if !told.known {
		told.known = true
		for _, end := range g.ends {
			told.is = told.is || isWhole(s+end)
		}
		g.begins[s] = told
	}
	return told.is
}

// wantNext is what Next is to tell, byte by byte by the document's words.
func (g *grammar) wantNext(s string, at int) (token.Token, int, api.Errno) {
	if at < 0 || at > len(s) {
		return token.Token{}, 0, api.ErrArg
	}
	from := len(s) - len(strings.TrimLeft(s[at:], "\x09\x0A\x0D\x20"))
	if from == len(s) {
		return token.Token{From: from, To: from}, from, api.OK
	}
	to := from
	for to < len(s) && g.canBegin(s[from:to+1]) {
		to++
	}
	switch {
	case isWhole(s[from:to]):
		return wantToken(s, from, to), to, api.OK
	case to < len(s):
		return token.Token{}, to, api.ErrForm
	}
	return token.Token{}, to, api.ErrShort
}

// wantToken is the token of the bytes from from to to.
func wantToken(s string, from, to int) token.Token {
	t := token.Token{Kind: s[from], From: from, To: to}
	switch {
	case t.Kind == '"':
		t.Kind, t.Text = 'S', saidBy(s[from:to])
	case strings.IndexByte("-0123456789", t.Kind) >= 0:
		t.Kind, t.Text = 'N', s[from:to]
	}
	return t
}

// saidBy is what the library reads of a whole quoted string.
func saidBy(s string) string {
	var out string
	if err := json.Unmarshal([]byte(s), &out); err != nil {
		panic(err)
	}
	return out
}

// wantList is what List is to tell, token by token.
func (g *grammar) wantList(s string) ([]token.Token, int, api.Errno) {
	var out []token.Token
	for at := 0; ; {
		t, place, e := g.wantNext(s, at)
		if e != api.OK {
			return nil, place, e
		}
		if t.Kind == 0 {
			return out, len(s), api.OK
		}
		out, at = append(out, t), place
	}
}
