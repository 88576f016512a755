package safety

import (
	"crypto/sha256"
	"crypto/sha512"
	"encoding/hex"
	"fmt"
	"math"
	"math/big"
	"math/rand"
	"slices"
	"strings"
	"testing"

	"intaglio/api"
)

// example: the groups of the chapter, and their text.
var example = Groups{7, 12345, 0, 99999, 10, 1}

const exampleText = "00007 12345 00000 99999 00010 00001"

// slow: the groups by the words of the promise, with great numbers and another SHA-512.
func slow(name string, keys []api.Key) Groups {
	sum := []byte("signet safety")
	for range 17 {
		h := sha512.New()
		h.Write(sum)
		h.Write([]byte(name))
		for _, k := range keys {
			h.Write(k[:])
		}
		sum = h.Sum(nil)
	}
	var g Groups
	for i := range 6 {
		n := new(big.Int).SetBytes(sum[5*i : 5*i+5])
		g[i] = uint32(n.Mod(n, big.NewInt(100000)).Uint64())
	}
	return g
}

// many: n keys, all of them different.
func many(n int) []api.Key {
	keys := make([]api.Key, n)
	for i := range keys {
		rand.New(rand.NewSource(int64(i))).Read(keys[i][:])
	}
	return keys
}

// P12.1: groups that another program made.
func TestOfAnotherProgram(t *testing.T) {
	var nine []api.Key
	for i := range 9 {
		nine = append(nine, api.Key([]byte(strings.Repeat(string([]byte{byte(i)}), 32))))
	}
	rows := []struct {
		name string
		keys []api.Key
		want string
	}{
		{"", nil, "37466 45314 62884 06098 47910 31768"},
		{"ann", []api.Key{{1}}, "31800 90852 41479 58255 57988 07501"},
		{"bob", []api.Key{{2}}, "04735 88119 91183 29414 40890 62574"},
		{"bob", []api.Key{{2}, {3}}, "13593 30041 12249 00512 20301 98879"},
		{"bob", []api.Key{{3}, {2}}, "56127 60565 15115 85545 58934 04060"},
		{"\xff\x00 n\u00e4", nine, "84273 17233 46229 96315 49880 14254"},
		{strings.Repeat("x", 1000), nil, "84473 59733 72694 23399 75428 99117"},
	}
	for _, r := range rows {
		if g := Of(r.name, r.keys...); g.String() != r.want {
			t.Errorf("Of %.20q with %d keys: %s", r.name, len(r.keys), g)
		}
	}
}

// P12.1: three hundred groups, summed up as another program makes them.
func TestManyOfAnotherProgram(t *testing.T) {
	h := sha256.New()
	for i := range 300 {
		name := make([]byte, i)
		for j := range name {
			name[j] = byte(i*7 + j*j)
		}
		keys := make([]api.Key, i%7)
		for a := range keys {
			for j := range 32 {
				keys[a][j] = byte(i*31 + a*5 + j*3)
			}
		}
		h.Write([]byte(Of(string(name), keys...).String() + "\n"))
	}
	if sum := hex.EncodeToString(h.Sum(nil)); sum != "49d737e38820b335bc143011d10c5398cb34bd92a99f7163ff336239f192bd72" {
		t.Errorf("the groups' sum is %s", sum)
	}
}

// P12.1: names of any bytes and many keys; each group is below 100000.
func TestOfByTheWords(t *testing.T) {
	names := []string{"", "a", "ann", "\x00", "\xff\xfe", "signet safety", strings.Repeat("\x80", 127), strings.Repeat("n", 128), strings.Repeat("n", 5000)}
	for _, name := range names {
		for _, n := range []int{0, 1, 2, 3, 4, 5, 16, 100} {
			keys := many(n)
			g := Of(name, keys...)
			if g != slow(name, keys) {
				t.Errorf("Of %.20q with %d keys: %s", name, n, g)
			}
			if slices.Max(g[:]) >= 100000 {
				t.Errorf("Of %.20q with %d keys: %d", name, n, g)
			}
		}
	}
}

// P12.1: another name, another key, another order, a key more or less: other groups.
func TestOfHangsOnAll(t *testing.T) {
	keys := many(3)
	seen := map[Groups]int{}
	for _, name := range []string{"", "ann", "anN", "ann ", "bob"} {
		for n := range 4 {
			seen[Of(name, keys[:n]...)]++
		}
		seen[Of(name, keys[1], keys[0])]++
	}
	for bit := range 256 {
		other := keys[0]
		other[bit/8] ^= 1 << (bit % 8)
		seen[Of("ann", other)]++
	}
	if len(seen) != 5*5+256 {
		t.Errorf("%d of %d differ", len(seen), 5*5+256)
	}
}

// P12.2: the example of the chapter, noughts, and numbers with more than five digits.
func TestString(t *testing.T) {
	rows := []struct {
		g    Groups
		want string
	}{
		{example, exampleText},
		{Groups{}, "00000 00000 00000 00000 00000 00000"},
		{Groups{1, 10, 100, 1000, 10000, 99999}, "00001 00010 00100 01000 10000 99999"},
		{Groups{100000, 100001, 200000, 1234567, 199999, 1000000000}, "00000 00001 00000 34567 99999 00000"},
		{Groups{math.MaxUint32, 1 << 31, 1<<31 - 1, math.MaxUint32 - 67295, math.MaxUint32 - 67296, 4294900000}, "67295 83648 83647 00000 99999 00000"},
	}
	for _, r := range rows {
		if s := r.g.String(); s != r.want {
			t.Errorf("%d: %s", [6]uint32(r.g), s)
		}
	}
	rng := rand.New(rand.NewSource(12))
	for range 5000 {
		var g Groups
		var words []string
		for i := range g {
			g[i] = rng.Uint32() >> rng.Intn(32)
			digits := fmt.Sprintf("%012d", g[i])
			words = append(words, digits[7:])
		}
		if s := g.String(); s != strings.Join(words, " ") {
			t.Fatalf("%d: %s", [6]uint32(g), s)
		}
	}
}

// P12.3: the one that stands first comes first, whichever was named first.
func TestNumber(t *testing.T) {
	last, high := Groups{7, 12345, 0, 99999, 10, 2}, Groups{10, 0, 0, 0, 0, 0}
	rows := []struct {
		a, b Groups
		want string
	}{
		{example, example, exampleText + " " + exampleText},
		{example, last, exampleText + " 00007 12345 00000 99999 00010 00002"},
		{example, high, exampleText + " 00010 00000 00000 00000 00000 00000"},
		{last, Groups{}, "00000 00000 00000 00000 00000 00000 00007 12345 00000 99999 00010 00002"},
		{Groups{100002}, Groups{3}, "00002 00000 00000 00000 00000 00000 00003 00000 00000 00000 00000 00000"}, // by their texts, not by their numbers
		{Groups{99999, 5}, Groups{200000, 6}, "00000 00006 00000 00000 00000 00000 99999 00005 00000 00000 00000 00000"},
		{Groups{4, 4, 300000}, Groups{4, 100004, 1}, "00004 00004 00000 00000 00000 00000 00004 00004 00001 00000 00000 00000"},
	}
	for _, r := range rows {
		if s := Number(r.a, r.b); s != r.want {
			t.Errorf("Number of %s and %s: %s", r.a, r.b, s)
		}
		if s := Number(r.b, r.a); s != r.want {
			t.Errorf("Number of %s and %s: %s", r.b, r.a, s)
		}
	}
}

// P12.3: what is left out, and what counts.
func TestSame(t *testing.T) {
	rows := []struct {
		number, text string
		want         bool
	}{
		{"", "", true},
		{"", " -\n-- ", true},
		{"- \n", "", true},
		{exampleText, exampleText, true},
		{exampleText, "000071234500000999990001000001", true},
		{exampleText, "00007-12345-00000\n99999-00010-00001\n", true},
		{exampleText, " 0 0 0 0 7--1 2\n\n3 4 5 00000 99999 00010 00001 ", true},
		{"1 2", "1-2", true},
		{"1-\n2", "12", true},
		{"ab", "a b", true},
		{"\xff\x80", "\xff-\x80", true},
		{"\u00e4", "\xc3 \xa4", true}, // by bytes, not by runes
		{"\x00", "-\x00-", true},
		{exampleText, "00007 12345 00000 99999 00010 00002", false},
		{exampleText, "00007 12345 00000 99999 00010 0000", false},
		{exampleText, "00007 12345 00000 99999 00010 000010", false},
		{exampleText, "12345 00007 00000 99999 00010 00001", false},
		{exampleText, "", false},
		{"", "0", false},
		{"12", "21", false},
		{"1", "1\t", false},
		{"1", "1\r\n", false},
		{"1", "1\v", false},
		{"1", "1\f", false},
		{"1", "1.", false},
		{"1", "1_", false},
		{"1", "1+", false},
		{"1", "1\x00", false},
		{"1", "1\u00a0", false}, // other blanks and strokes than those
		{"1", "1\u2003", false},
		{"1", "1\u2013", false},
		{"1", "1\u2212", false},
		{"\xff", "\xfe", false}, // bytes that are no runes differ still
		{"\xff", "\ufffd", false},
		{"a", "A", false},
		{"1", "\u0661", false},
	}
	for _, r := range rows {
		if Same(r.number, r.text) != r.want || Same(r.text, r.number) != r.want {
			t.Errorf("Same of %q and %q is to be %v", r.number, r.text, r.want)
		}
	}
	for c := range 256 {
		put := string([]byte{'1', byte(c), '2'})
		if left := c == ' ' || c == '\n' || c == '-'; Same("12", put) != left || Same(put, "12") != left {
			t.Errorf("byte %d is left out: %v", c, !left)
		}
	}
}

// P12.4: what String writes is read; the groups are then below 100000.
func TestParseOfStrings(t *testing.T) {
	if g, e := Parse(exampleText); e != api.OK || g != example {
		t.Errorf("Parse of the example: %d, %v", [6]uint32(g), e)
	}
	rng := rand.New(rand.NewSource(13))
	for range 5000 {
		var g, below Groups
		for i := range g {
			g[i] = rng.Uint32() >> rng.Intn(32)
			below[i] = g[i] % 100000
		}
		if h, e := Parse(g.String()); e != api.OK || h != below {
			t.Fatalf("Parse of %s: %d, %v", g, [6]uint32(h), e)
		}
	}
}

// P12.4: each byte of a text changed, left out or put in.
func TestParseOfOtherTexts(t *testing.T) {
	refused := func(s string) {
		t.Helper()
		if g, e := Parse(s); e != api.ErrShape || g != (Groups{}) {
			t.Errorf("Parse of %q: %d, %v", s, [6]uint32(g), e)
		}
	}
	for at := range len(exampleText) {
		for c := range 256 {
			b := []byte(exampleText)
			b[at] = byte(c)
			if digit := c >= '0' && c <= '9'; at%6 == 5 && c == ' ' || at%6 != 5 && digit {
				if g, e := Parse(string(b)); e != api.OK || g.String() != string(b) {
					t.Errorf("Parse of %q: %d, %v", b, [6]uint32(g), e)
				}
				continue
			}
			refused(string(b))
		}
		refused(exampleText[:at])
		refused(exampleText[at+1:])
		refused(exampleText[:at] + exampleText[at+1:])
		for _, put := range []string{" ", "0", "\x00", "\n", "\xff"} {
			refused(exampleText[:at] + put + exampleText[at:])
		}
	}
	for _, s := range []string{
		exampleText + " ", exampleText + "\n", exampleText + "0", exampleText + " 00000", exampleText + " " + exampleText, " " + exampleText[:34],
		"0000712345000009999900010000010000a", "000071234500000999990001000001", "7 12345 0 99999 10 1", "00007-12345-00000-99999-00010-00001",
		"+0007 12345 00000 99999 00010 00001", "-0007 12345 00000 99999 00010 00001", "0x007 12345 00000 99999 00010 00001", "1_000 12345 00000 99999 00010 00001", "1e003 12345 00000 99999 00010 00001",
		strings.Repeat("\u0661", 17) + "0", strings.Repeat("\xff", 35), strings.Repeat("9", 35), strings.Repeat(" ", 35), strings.Repeat("0", 1<<20),
	} {
		refused(s)
	}
}

// P2: the keys, their list's spare room too, are not changed; what was answered once is answered again.
func TestKeysAreNotChanged(t *testing.T) {
	keys := many(5)
	before := slices.Clone(keys)
	one := Of("ann", keys[:3]...)
	two := Of("ann", keys[:3]...)
	if one != two || !slices.Equal(keys, before) {
		t.Error("keys are changed")
	}
	clear(keys)
	if one != slow("ann", before[:3]) {
		t.Error("keys are kept")
	}
}
