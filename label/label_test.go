package label_test

import (
	"math/rand/v2"
	"regexp"
	"slices"
	"strings"
	"testing"

	"outrider/api"
	"outrider/label"
)

// runs: how long texts are tried, with the ends of what may be.
func runs() []int { return []int{0, 1, 2, 31, 32, 33, 63, 64, 65, 127, 128, 129, 5000} }

// texts calls f with each text of up to n of the pieces.
func texts(pieces []string, n int, f func(s string)) {
	f("")
	if n == 0 {
		return
	}
	for _, p := range pieces {
		texts(pieces, n-1, func(s string) { f(p + s) })
	}
}

// eachByte calls f with each byte as a text.
func eachByte(f func(c string)) {
	for i := range 256 {
		f(string([]byte{byte(i)}))
	}
}

func TestName(t *testing.T) { // P3.1
	form := regexp.MustCompile(`\A[a-z][a-z0-9_-]{0,31}\z`)
	check := func(s string) {
		if got, wanted := label.Name(s), form.MatchString(s); got != wanted {
			t.Errorf("Name(%q): %v, wanted %v", s, got, wanted)
		}
	}
	eachByte(func(c string) {
		check(c)
		check("a" + c)
		check(c + "a")
		check("a" + c + "a")
	})
	for _, n := range runs() {
		check(strings.Repeat("a", n))
		check("a" + strings.Repeat("9", n))
		check(strings.Repeat("z", n) + "\n")
	}
	texts([]string{"a", "z", "0", "9", "-", "_", "A", ".", "é", "\xff"}, 3, check)
}

func TestNameByHand(t *testing.T) { // P3.1
	for s, wanted := range map[string]bool{
		"a": true, "z9": true, "web-1": true, "web_1": true, "a-": true, "a_": true, "a--__": true,
		strings.Repeat("a", 32): true, strings.Repeat("a", 33): false,
		"": false, "1web": false, "-web": false, "_web": false, "Web": false, "weB": false, "we b": false,
		"a.b": false, "*": false, "a\x00": false, "ä": false, "a\u0301": false, "a\n": false, "{": false, "a`": false,
	} {
		if got := label.Name(s); got != wanted {
			t.Errorf("Name(%q): %v, wanted %v", s, got, wanted)
		}
	}
}

func TestLower(t *testing.T) { // P3.1
	eachByte(func(c string) {
		wanted := c
		if c >= "A" && c <= "Z" {
			wanted = string([]byte{c[0] + 32})
		}
		if got := label.Lower(c); got != wanted {
			t.Errorf("Lower(%q): %q, wanted %q", c, got, wanted)
		}
	})
	for s, wanted := range map[string]string{
		"": "", "ABCXYZ": "abcxyz", "a.B-1_@[`{": "a.b-1_@[`{", "already": "already",
		"ÄÉ\u212a\u0130": "ÄÉ\u212a\u0130", "\xffA\xc3Z": "\xffa\xc3z", "A\x00B": "a\x00b",
	} {
		if got := label.Lower(s); got != wanted {
			t.Errorf("Lower(%q): %q, wanted %q", s, got, wanted)
		}
	}
}

var (
	hostForm = regexp.MustCompile(`\A(\*\.)?[a-z0-9]([a-z0-9-]{0,30}[a-z0-9])?(\.[a-z0-9]([a-z0-9-]{0,30}[a-z0-9])?)*\z`)
	pathForm = regexp.MustCompile(`\A/([!-.0-~]+/)*[!-.0-~]*\z`)
)

// host: what Host answers, told by a pattern.
func host(s string) api.Errno {
	switch {
	case s == "":
		return api.ErrShort
	case len(s) > 64:
		return api.ErrLong
	case !hostForm.MatchString(s):
		return api.ErrForm
	}
	return api.OK
}

func TestHost(t *testing.T) { // P3.1
	check := func(s string) {
		if got, wanted := label.Host(s), host(s); got != wanted {
			t.Errorf("Host(%q): %v, wanted %v", s, got, wanted)
		}
	}
	eachByte(func(c string) {
		for _, s := range []string{c, "a" + c, c + "a", "a" + c + "a", "a." + c + ".a", "*." + c, "*" + c + "a"} {
			check(s)
		}
	})
	for _, n := range runs() {
		for _, s := range []string{"a", "-", ".", "a.", "*", "*."} {
			check(strings.Repeat(s, n))
			check("a." + strings.Repeat(s, n))
			check("*." + strings.Repeat(s, n) + "a")
		}
	}
	texts([]string{"a", "0", "-", ".", "*", "A"}, 5, check)
}

func TestHostByHand(t *testing.T) { // P3.1
	half := strings.Repeat("a", 32)
	for s, wanted := range map[string]api.Errno{
		"a": api.OK, "0": api.OK, "a.b": api.OK, "a-b.c--d": api.OK, "*.a": api.OK, "*.a.b": api.OK, "1.2.3.4": api.OK,
		half: api.OK, half + "." + half[1:]: api.OK, "*." + half: api.OK,
		"":                api.ErrShort,
		half + "." + half: api.ErrLong, strings.Repeat(".", 65): api.ErrLong, "*" + strings.Repeat("A", 64): api.ErrLong,
		strings.Repeat(".", 64): api.ErrForm, half + "a": api.ErrForm, "a." + half + "a": api.ErrForm,
		"*": api.ErrForm, "*.": api.ErrForm, "**.a": api.ErrForm, "*a.b": api.ErrForm, "a*.b": api.ErrForm,
		"a.*": api.ErrForm, "a.*.b": api.ErrForm, "*.*": api.ErrForm, "*.*.a": api.ErrForm, ".*.a": api.ErrForm,
		".": api.ErrForm, ".a": api.ErrForm, "a.": api.ErrForm, "a..b": api.ErrForm, "*..a": api.ErrForm,
		"-": api.ErrForm, "-a": api.ErrForm, "a-": api.ErrForm, "a-.b": api.ErrForm, "a.-b": api.ErrForm, "*.-a": api.ErrForm,
		"A": api.ErrForm, "a.B": api.ErrForm, "a_b": api.ErrForm, "a b": api.ErrForm, "a/b": api.ErrForm, "a:1": api.ErrForm,
		"ä": api.ErrForm, "\xff": api.ErrForm, "\x00": api.ErrForm, "a\n": api.ErrForm,
	} {
		if got := label.Host(s); got != wanted {
			t.Errorf("Host(%q): %v, wanted %v", s, got, wanted)
		}
	}
}

// path: what Path answers, told by a pattern.
func path(s string) api.Errno {
	switch {
	case !pathForm.MatchString(s):
		return api.ErrForm
	case len(s) > 128:
		return api.ErrLong
	}
	return api.OK
}

func TestPath(t *testing.T) { // P3.2
	check := func(s string) {
		if got, wanted := label.Path(s), path(s); got != wanted {
			t.Errorf("Path(%q): %v, wanted %v", s, got, wanted)
		}
	}
	eachByte(func(c string) {
		for _, s := range []string{c, "/" + c, c + "/", "/a" + c, "/" + c + "/", "/" + c + "/b"} {
			check(s)
			check(s + strings.Repeat("x", 128))
		}
	})
	for _, n := range runs() {
		for _, s := range []string{"a", "/", "a/", "/a", " "} {
			check(strings.Repeat(s, n))
			check("/" + strings.Repeat(s, n))
		}
	}
	texts([]string{"/", "a", "~", "!", " ", "\x7f"}, 4, check)
}

func TestPathByHand(t *testing.T) { // P3.2
	long := "/" + strings.Repeat("a", 127)
	for s, wanted := range map[string]api.Errno{
		"/": api.OK, "/a": api.OK, "/a/": api.OK, "/a/b": api.OK, "/!~": api.OK, "/A.*?": api.OK, "/..": api.OK, long: api.OK,
		"": api.ErrForm, "a": api.ErrForm, "a/b": api.ErrForm, "//": api.ErrForm, "/a//b": api.ErrForm, "/a//": api.ErrForm,
		"/a b": api.ErrForm, "/\x7f": api.ErrForm, "/\x20": api.ErrForm, "/\x00": api.ErrForm, "/ä": api.ErrForm, " /a": api.ErrForm, "/a\n": api.ErrForm,
		long + "a": api.ErrLong, long + "/": api.ErrLong, long + long: api.ErrLong,
		long + "//": api.ErrForm, long + " ": api.ErrForm, long[1:] + "aa": api.ErrForm, "/" + long: api.ErrForm,
	} {
		if got := label.Path(s); got != wanted {
			t.Errorf("Path(%q): %v, wanted %v", s, got, wanted)
		}
	}
}

func TestParts(t *testing.T) { // P3.2
	for _, c := range []struct {
		s      string
		wanted []string
	}{
		{"", nil}, {"/", nil}, {"///", nil},
		{"/a", []string{"a"}}, {"a", []string{"a"}}, {"a/", []string{"a"}}, {"/a/", []string{"a"}},
		{"/a/b", []string{"a", "b"}}, {"//a///b//", []string{"a", "b"}}, {"a/b", []string{"a", "b"}},
		{"/a/a/A", []string{"a", "a", "A"}}, {"/ /\x00/\xff\xc3/..", []string{" ", "\x00", "\xff\xc3", ".."}},
		{"/é/", []string{"é"}}, {`\a`, []string{`\a`}},
	} {
		if got := label.Parts(c.s); !slices.Equal(got, c.wanted) {
			t.Errorf("Parts(%q): %q, wanted %q", c.s, got, c.wanted)
		}
	}
	many := label.Parts(strings.Repeat("/ab", 5000))
	if len(many) != 5000 || slices.ContainsFunc(many, func(p string) bool { return p != "ab" }) {
		t.Errorf("Parts of 5000: %d", len(many))
	}
}

func TestPartsAreNew(t *testing.T) { // the rule on memory: two answers share none
	a, b := label.Parts("/a/b"), label.Parts("/a/b")
	a[0] = "x"
	if !slices.Equal(b, []string{"a", "b"}) || !slices.Equal(label.Parts("/a/b"), b) {
		t.Errorf("Parts: %q", b)
	}
}

func TestUnder(t *testing.T) { // P3.2
	for _, c := range []struct {
		prefix, path string
		wanted       bool
	}{
		{"/", "/", true}, {"/", "/x", true}, {"/", "/x/y", true}, {"", "/x", true}, {"", "", true}, {"///", "", true},
		{"/a", "/a", true}, {"/a", "/a/", true}, {"/a/", "/a", true}, {"a", "/a", true}, {"//a", "/a/b", true},
		{"/a", "/a/b", true}, {"/a/b", "/a/b/c", true}, {"/a//b", "/a/b/c", true},
		{"/a", "/ab", false}, {"/ab", "/a", false}, {"/a", "/", false}, {"/a", "", false}, {"/a/b", "/a", false},
		{"/a/b", "/a/c", false}, {"/a/b", "/b/a/b", false}, {"/b", "/a/b", false}, {"/a/b", "/a/bc", false}, {"/a/b", "/ab", false},
		{"/A", "/a", false}, {"/a", "/A", false}, {"/a/b/c", "/a/b", false}, {"/*", "/a", false}, {"/.", "/", false},
	} {
		if got := label.Under(c.prefix, c.path); got != c.wanted {
			t.Errorf("Under(%q, %q): %v, wanted %v", c.prefix, c.path, got, c.wanted)
		}
	}
}

func TestCovers(t *testing.T) { // P3.2
	for _, c := range []struct {
		pattern, host string
		wanted        bool
	}{
		{"a", "a", true}, {"a.b", "a.b", true}, {"A.b", "a.B", true}, {"*.a", "*.a", true}, {"*.A", "*.a", true}, {"", "", true},
		{"*.a.b", "x.a.b", true}, {"*.a.b", "x.y.a.b", true}, {"*.A.b", "x.y.a.B", true}, {"*.a.b", "X.A.B", true},
		{"*.a", "x.a", true}, {"*.a", "a.a", true}, {"*.a", "*.x.a", true}, {"*", "a", true}, {"*", "a.b", true},
		{"*.a.b", "a.b", false}, {"*.a.b", "b", false}, {"*.a.b", "xa.b", false}, {"*.a.b", "x.a.bb", false},
		{"*.a.b", "x.a.b.c", false}, {"*.a.b", "a.b.c", false}, {"*.a.b", "x.b", false}, {"*.a.b", "", false}, {"*.a", "a", false},
		{"a.b", "x.a.b", false}, {"a.b", "b", false}, {"a.b", "a", false}, {"a", "b", false}, {"a", "", false}, {"", "a", false},
		{"x.a", "*.a", false}, {"a.*", "a.x", false}, {"a.*.b", "a.x.b", false}, {"*a.b", "xa.b", false}, {"*a", "ba", false},
		{"x*.a", "xy.a", false}, {"**.a", "x.a", false}, {"*.a.b", "x.a,b", false}, {"*.é", "x.É", false}, {"k", "\u212a", false},
	} {
		if got := label.Covers(c.pattern, c.host); got != c.wanted {
			t.Errorf("Covers(%q, %q): %v, wanted %v", c.pattern, c.host, got, c.wanted)
		}
	}
}

func TestCoversOfHosts(t *testing.T) { // P3.2
	var hosts []string
	texts([]string{"a", "b", "ab", ".", "*."}, 4, func(s string) {
		if label.Host(s) == api.OK {
			hosts = append(hosts, s)
		}
	})
	for _, p := range hosts {
		for _, h := range hosts {
			rest, wide := strings.CutPrefix(p, "*")
			wanted := p == h || wide && strings.HasSuffix(h, rest)
			if got := label.Covers(p, h); got != wanted {
				t.Errorf("Covers(%q, %q): %v, wanted %v", p, h, got, wanted)
			}
			if got := label.Covers(strings.ToUpper(p), h); got != wanted {
				t.Errorf("Covers(%q, %q): %v, wanted %v", strings.ToUpper(p), h, got, wanted)
			}
		}
	}
}

func TestUnderFollows(t *testing.T) { // P3.3
	var paths []string
	texts([]string{"/", "a", "b", "A"}, 4, func(s string) { paths = append(paths, s) })
	under := make([][]string, len(paths))
	for i, p := range paths {
		if !label.Under(p, p) {
			t.Errorf("%q isn't under itself", p)
		}
		for _, q := range paths {
			if label.Under(p, q) {
				under[i] = append(under[i], q)
			}
		}
	}
	for i, p := range paths {
		for _, q := range under[i] {
			for _, r := range under[slices.Index(paths, q)] {
				if !label.Under(p, r) {
					t.Errorf("%q is under %q, and that under %q, but isn't under that", r, q, p)
				}
			}
		}
	}
	chain := "/a"
	for range 40 {
		next := chain + "/b"
		if !label.Under(chain, next) || !label.Under("/a", next) || label.Under(next, chain) {
			t.Errorf("%q isn't only under %q", next, chain)
		}
		chain = next
	}
}

func TestAnythingEnds(t *testing.T) { // P1
	r := rand.New(rand.NewPCG(3, 1))
	for range 2000 {
		b := make([]byte, r.IntN(200))
		for i := range b {
			b[i] = byte(r.Uint32())
			if r.IntN(3) > 0 {
				b[i] = "/.*-_aZ9"[r.IntN(8)]
			}
		}
		s := string(b)
		if got, wanted := label.Host(s), host(s); got != wanted {
			t.Errorf("Host(%q): %v, wanted %v", s, got, wanted)
		}
		if got, wanted := label.Path(s), path(s); got != wanted {
			t.Errorf("Path(%q): %v, wanted %v", s, got, wanted)
		}
		if got := "/" + strings.Join(label.Parts(s), "/"); !label.Under(got, s) || !label.Under(s, got) {
			t.Errorf("Parts(%q): %q", s, got)
		}
		if !label.Covers(s, label.Lower(s)) || label.Name(s) && label.Lower(s) != s {
			t.Errorf("%q isn't covered by itself, or is a name of great letters", s)
		}
	}
}
