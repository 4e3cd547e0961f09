package value_test

import (
	"strconv"
	"strings"
	"testing"
	"unicode/utf8"

	"glossator/api"
	"glossator/value"
)

const (
	maxUint64 = 1<<64 - 1
	lastKind  = api.KExt
)

func null() api.Value               { return api.Value{K: api.KNull} }
func whole(n uint64) api.Value      { return api.Value{K: api.KInt, N: n} }
func great(s string) api.Value      { return api.Value{K: api.KBig, S: s} }
func bytes(s string) api.Value      { return api.Value{K: api.KBytes, S: s} }
func text(s string) api.Value       { return api.Value{K: api.KText, S: s} }
func list(l ...api.Value) api.Value { return api.Value{K: api.KList, L: l} }

// pairs is a map of a key, its value, and so on.
func pairs(l ...api.Value) api.Value { return api.Value{K: api.KMap, L: l} }

func tag(n uint64, l ...api.Value) api.Value { return api.Value{K: api.KTag, N: n, L: l} }

// big is what a KBig of n bytes has as S.
func big(n int) string { return "\x01" + strings.Repeat("\x00", n-1) }

// nulls are n values without others.
func nulls(n int) []api.Value { return make([]api.Value, n) }

// within is v within so many lists.
func within(lists int, v api.Value) api.Value {
	for range lists {
		v = list(v)
	}
	return v
}

// wrap is v within one more value.
type wrap func(v api.Value) api.Value

// wraps are the ways in which a value can stand within another.
func wraps() map[string]wrap {
	return map[string]wrap{
		"a list":             func(v api.Value) api.Value { return list(v) },
		"a list's beginning": func(v api.Value) api.Value { return list(v, null(), null()) },
		"a list's middle":    func(v api.Value) api.Value { return list(null(), v, null()) },
		"a list's end":       func(v api.Value) api.Value { return list(null(), null(), v) },
		"a first key":        func(v api.Value) api.Value { return pairs(v, null()) },
		"a first key's":      func(v api.Value) api.Value { return pairs(null(), v) },
		"a last key":         func(v api.Value) api.Value { return pairs(null(), null(), v, null()) },
		"a last key's":       func(v api.Value) api.Value { return pairs(null(), null(), null(), v) },
		"a tag":              func(v api.Value) api.Value { return tag(4, v) },
	}
}

// chance tells numbers that look like chance but are the same in each run.
type chance uint64

func (c *chance) word() uint64 {
	*c ^= *c << 13
	*c ^= *c >> 7
	*c ^= *c << 17
	return uint64(*c) * 0x2545F4914F6CDD1D
}

func (c *chance) below(n int) int {
	return int(c.word() >> 1 % uint64(n))
}

// leaf is a right value without others, of any kind.
func (c *chance) leaf() api.Value {
	kinds := []int{api.KNull, api.KBool, api.KUndef, api.KSimple, api.KInt, api.KBig, api.KF16, api.KF32, api.KF64, api.KBytes, api.KText, api.KExt}
	v := api.Value{K: kinds[c.below(len(kinds))]}
	switch v.K {
	case api.KBool:
		v.N = c.word() >> 63
	case api.KSimple:
		v.N = 32 + c.word()>>40%224
	case api.KInt:
		v.Neg, v.N = c.below(2) == 0, c.word()
	case api.KBig:
		v.Neg, v.S = c.below(2) == 0, big(9+c.below(5))
	case api.KF16:
		v.N = c.word() >> 48
	case api.KF32:
		v.N = c.word() >> 32
	case api.KF64:
		v.N = c.word()
	case api.KBytes:
		v.S = "\xFF" + strings.Repeat("b", c.below(5))
	case api.KText:
		v.S = strings.Repeat("\u20AC", c.below(5))
	case api.KExt:
		v.N, v.S = c.word()>>56, strings.Repeat("\xFE", c.below(5))
	}
	return v
}

// tree is a right one that is no deeper than depth, but for a KBig at its
// bottom.
func (c *chance) tree(depth int) api.Value {
	if depth == 0 || c.below(3) == 0 {
		return c.leaf()
	}
	switch c.below(3) {
	case 0:
		return tag(uint64(c.below(9)*7), c.tree(depth-1)) // 0, 7 and on: none is 2 or 3
	case 1:
		return api.Value{K: api.KMap, L: c.trees(2*c.below(4), depth-1)}
	}
	return api.Value{K: api.KList, L: c.trees(c.below(7), depth-1)}
}

func (c *chance) trees(n, depth int) []api.Value {
	var out []api.Value
	for range n {
		out = append(out, c.tree(depth))
	}
	return out
}

// broken is v with one field of one value changed, whether it stays right or not.
func (c *chance) broken(v api.Value) api.Value {
	v = copied(v)
	at := &v
	for len(at.L) > 0 && c.below(3) != 0 {
		at = &at.L[c.below(len(at.L))]
	}
	switch c.below(5) {
	case 0:
		at.K = c.below(lastKind+4) - 1
	case 1:
		at.Neg = !at.Neg
	case 2:
		at.N = c.word() >> c.below(64)
	case 3:
		at.S = []string{"", "a", "\xFF", big(8), big(9), "\x00" + big(9)}[c.below(6)]
	case 4:
		at.L = append(at.L, c.leaf())
	}
	return v
}

// copied shares no list with v.
func copied(v api.Value) api.Value {
	var l []api.Value
	for _, x := range v.L {
		l = append(l, copied(x))
	}
	v.L = l
	return v
}

// same tells whether two trees are the same.
func same(a, b api.Value) bool {
	if a.K != b.K || a.Neg != b.Neg || a.N != b.N || a.S != b.S || len(a.L) != len(b.L) {
		return false
	}
	for i := range a.L {
		if !same(a.L[i], b.L[i]) {
			return false
		}
	}
	return true
}

// wantDepth is what Depth is to tell, by the document's words.
func wantDepth(v api.Value) int {
	if v.K == api.KBig {
		return 1
	}
	if v.K != api.KList && v.K != api.KMap && v.K != api.KTag {
		return 0
	}
	out := 1
	for _, x := range v.L {
		out = max(out, 1+wantDepth(x))
	}
	return out
}

// wantCount is how many values v has.
func wantCount(v api.Value) int {
	out := 1
	for _, x := range v.L {
		out += wantCount(x)
	}
	return out
}

// wantPaths are the paths of all values of v, which stands at the path.
func wantPaths(v api.Value, path string) []string {
	out := []string{path}
	for i, x := range v.L {
		out = append(out, wantPaths(x, path+" "+strconv.Itoa(i))...)
	}
	return out
}

// wantRight tells whether v is a right tree, by the document's words.
func wantRight(v api.Value) bool {
	for _, x := range v.L {
		if !wantRight(x) {
			return false
		}
	}
	bare := !v.Neg && v.N == 0 && v.S == ""
	justN := !v.Neg && v.S == "" && len(v.L) == 0
	justS := !v.Neg && v.N == 0 && len(v.L) == 0
	switch v.K {
	case api.KNull, api.KUndef:
		return bare && len(v.L) == 0
	case api.KBool:
		return justN && v.N < 2
	case api.KSimple:
		return justN && (v.N < 20 || v.N > 31) && v.N < 256
	case api.KInt:
		return v.S == "" && len(v.L) == 0
	case api.KBig:
		return v.N == 0 && len(v.L) == 0 && wantBig(v.S)
	case api.KF16:
		return justN && v.N < 1<<16
	case api.KF32:
		return justN && v.N < 1<<32
	case api.KF64:
		return justN
	case api.KBytes:
		return justS
	case api.KText:
		return justS && utf8.ValidString(v.S)
	case api.KList:
		return bare
	case api.KMap:
		return bare && len(v.L)&1 == 0
	case api.KTag:
		if v.Neg || v.S != "" || len(v.L) != 1 {
			return false
		}
		return v.N != 2 && v.N != 3 || v.L[0].K != api.KBytes || !wantBig(v.L[0].S)
	case api.KExt:
		return !v.Neg && len(v.L) == 0 && v.N < 256
	}
	return false
}

func wantBig(s string) bool {
	return len(s) > 8 && len(s) <= api.MaxBig && s[0] > 0
}

// wantCheck is what Check is to tell.
func wantCheck(v api.Value) api.Errno {
	switch {
	case wantDepth(v) > api.MaxDepth || wantCount(v) > api.MaxNodes:
		return api.ErrLong
	case !wantRight(v):
		return api.ErrValue
	}
	return api.OK
}

// told is a value in few words.
func told(v api.Value) string {
	s := strconv.Quote(v.S)
	if len(s) > 60 {
		s = s[:60] + " .. (" + strconv.Itoa(len(v.S)) + " bytes)"
	}
	out := "K " + strconv.Itoa(v.K) + " Neg " + strconv.FormatBool(v.Neg) + " N " + strconv.FormatUint(v.N, 16) + " S " + s
	if len(v.L) > 3 {
		return out + " and " + strconv.Itoa(len(v.L)) + " within"
	}
	for i, x := range v.L {
		if i == 0 && len(x.L) > 0 {
			return out + " [ .. ]"
		}
		out += " [" + told(x) + "]"
	}
	return out
}

// toldPath is a path as wantPaths has it.
func toldPath(path []int) string {
	out := ""
	for _, i := range path {
		out += " " + strconv.Itoa(i)
	}
	return out
}

func checkCheck(t *testing.T, v api.Value, want api.Errno) {
	t.Helper()
	if e := value.Check(v); e != want {
		t.Fatalf("Check(%s): %v, want %v", told(v), e, want)
	}
}

// checkCheckWithin asks Check for v, and for it within others.
func checkCheckWithin(t *testing.T, v api.Value, want api.Errno) {
	t.Helper()
	checkCheck(t, v, want)
	for name, wrap := range wraps() {
		if e := value.Check(wrap(v)); e != want {
			t.Fatalf("Check(%s as %s): %v, want %v", told(v), name, e, want)
		}
		if e := value.Check(within(9, wrap(within(9, v)))); e != want {
			t.Fatalf("Check(%s deep within %s): %v, want %v", told(v), name, e, want)
		}
	}
}

// checkEqual asks Equal for both orders.
func checkEqual(t *testing.T, a, b api.Value, want bool) {
	t.Helper()
	if value.Equal(a, b) != want || value.Equal(b, a) != want {
		t.Fatalf("Equal(%s, %s): %v and %v, want %v", told(a), told(b), value.Equal(a, b), value.Equal(b, a), want)
	}
}

func checkDepth(t *testing.T, v api.Value, want int) {
	t.Helper()
	if n := value.Depth(v); n != want {
		t.Fatalf("Depth(%s): %d, want %d", told(v), n, want)
	}
}

func checkCount(t *testing.T, v api.Value, want int) {
	t.Helper()
	if n := value.Count(v); n != want {
		t.Fatalf("Count(%s): %d, want %d", told(v), n, want)
	}
}

func checkAt(t *testing.T, v api.Value, want api.Value, wantE api.Errno, path ...int) {
	t.Helper()
	if got, e := value.At(v, path...); !same(got, want) || e != wantE {
		t.Fatalf("At(%s,%s): %s, %v, want %s, %v", told(v), toldPath(path), told(got), e, told(want), wantE)
	}
}

// checkPaths asks Paths for the paths that are told each as a text.
func checkPaths(t *testing.T, v api.Value, want ...string) {
	t.Helper()
	got := value.Paths(v)
	if len(got) != len(want) {
		t.Fatalf("Paths(%s): %d paths, want %d", told(v), len(got), len(want))
	}
	for i, path := range got {
		if toldPath(path) != want[i] {
			t.Fatalf("Paths(%s): at %d%s, want%s", told(v), i, toldPath(path), want[i])
		}
	}
}
