package digest_test

import (
	"crypto/sha256"
	"encoding/binary"
	"encoding/hex"
	"math/big"
	"math/rand/v2"
	"strings"
	"testing"

	"outrider/api"
	"outrider/digest"
)

// texts: of every length round the ends of the first blocks, and some longer ones.
func texts() []string {
	var l []string
	for n := range 260 {
		b := make([]byte, n)
		for i := range b {
			b[i] = byte(i*7 + n)
		}
		l = append(l, string(b), strings.Repeat("\x00", n), strings.Repeat("\xff", n))
	}
	return append(l, "abc", "not UTF-8 \xff\xfe\x80", strings.Repeat("a", 8192), strings.Repeat("outrider", 3000), strings.Repeat("\x80", 100001))
}

// checkSum holds the sum of parts against that of the text that they make.
func checkSum(t *testing.T, s string, parts ...string) {
	t.Helper()
	wanted := sha256.Sum256([]byte(s))
	if got := digest.Sum(parts...); got != api.Sum(wanted) {
		t.Errorf("Sum of %d bytes in %d parts: %x, wanted %x", len(s), len(parts), got, wanted)
	}
	if got := digest.Text(parts...); got != string(wanted[:]) {
		t.Errorf("Text of %d bytes in %d parts: %x, wanted %x", len(s), len(parts), got, wanted)
	}
}

func TestSum(t *testing.T) { // P6.1
	for s, wanted := range map[string]string{
		"":    "e3b0c44298fc1c149afbf4c8996fb92427ae41e4649b934ca495991b7852b855",
		"abc": "ba7816bf8f01cfea414140de5dae2223b00361a396177a9cb410ff61f20015ad",
		"abcdbcdecdefdefgefghfghighijhijkijkljklmklmnlmnomnopnopq":                                                         "248d6a61d20638b8e5c026930c3e6039a33ce45964ff2167f6ecedd419db06c1",
		"abcdefghbcdefghicdefghijdefghijkefghijklfghijklmghijklmnhijklmnoijklmnopjklmnopqklmnopqrlmnopqrsmnopqrstnopqrstu": "cf5b16a778af8380036ce59e7b0492370b249b11e8f07a51afac45037afee9d1",
		strings.Repeat("a", 1000000): "cdc76e5c9914fb9281a1c7e284d73e67f1809a48a497200e046d39ccc7112cd0",
	} {
		got := digest.Sum(s)
		if hex.EncodeToString(got[:]) != wanted {
			t.Errorf("Sum of %d bytes: %x, wanted %s", len(s), got, wanted)
		}
	}
	for _, s := range texts() {
		checkSum(t, s, s)
	}
}

func TestSumOfNoParts(t *testing.T) { // P6.1
	for _, l := range [][]string{nil, {}, {""}, {"", "", ""}} {
		checkSum(t, "", l...)
	}
}

func TestPrint(t *testing.T) { // P6.1
	for _, s := range texts() {
		sum := sha256.Sum256([]byte(s))
		if got, wanted := digest.Print(s), api.Print(sum[:16]); got != wanted {
			t.Errorf("Print of %d bytes: %x, wanted %x", len(s), got, wanted)
		}
	}
}

func TestWhole(t *testing.T) { // P6.1
	for _, s := range texts() {
		wanted := []byte(s)
		wanted = append(wanted, 128)
		for len(wanted)%64 != 56 {
			wanted = append(wanted, 0)
		}
		wanted = binary.BigEndian.AppendUint64(wanted, uint64(len(s))*8)
		if got := digest.Whole(s); got != string(wanted) {
			t.Errorf("Whole of %d bytes: %x, wanted %x", len(s), got, wanted)
		}
	}
}

func TestWholeByHand(t *testing.T) { // P6.1
	for n, wanted := range map[int]int{0: 64, 1: 64, 54: 64, 55: 64, 56: 128, 57: 128, 63: 128, 64: 128, 119: 128, 120: 192} {
		if got := len(digest.Whole(strings.Repeat("x", n))); got != wanted {
			t.Errorf("Whole of %d bytes has %d, wanted %d", n, got, wanted)
		}
	}
	if got := digest.Whole("abc"); got != "abc\x80"+strings.Repeat("\x00", 59)+"\x18" {
		t.Errorf("Whole of abc: %x", got)
	}
	if got := digest.Whole(strings.Repeat("x", 8192))[8192:]; got != "\x80"+strings.Repeat("\x00", 60)+"\x01\x00\x00" {
		t.Errorf("Whole of 8192 bytes ends so: %x", got)
	}
}

func TestKeys(t *testing.T) { // P6.1
	keys := digest.Keys()
	i := 0
	for n := int64(2); i < 64; n++ {
		if !big.NewInt(n).ProbablyPrime(0) {
			continue
		}
		root := cubeRoot(new(big.Int).Lsh(big.NewInt(n), 96))
		if wanted := uint32(new(big.Int).And(root, big.NewInt(1<<32-1)).Uint64()); keys[i] != wanted {
			t.Errorf("Keys()[%d]: %08x, wanted %08x", i, keys[i], wanted)
		}
		i++
	}
	for i, wanted := range map[int]uint32{0: 0x428a2f98, 1: 0x71374491, 2: 0xb5c0fbcf, 3: 0xe9b5dba5, 31: 0x14292967, 32: 0x27b70a85, 62: 0xbef9a3f7, 63: 0xc67178f2} {
		if keys[i] != wanted {
			t.Errorf("Keys()[%d]: %08x, wanted %08x", i, keys[i], wanted)
		}
	}
}

// cubeRoot: the greatest whole number whose cube isn't above n, sought by halves.
func cubeRoot(n *big.Int) *big.Int {
	low, high := big.NewInt(0), new(big.Int).Lsh(big.NewInt(1), 40)
	for new(big.Int).Sub(high, low).Cmp(big.NewInt(1)) > 0 {
		mid := new(big.Int).Rsh(new(big.Int).Add(low, high), 1)
		if new(big.Int).Exp(mid, big.NewInt(3), nil).Cmp(n) <= 0 {
			low = mid
		} else {
			high = mid
		}
	}
	return low
}

func TestKeysAreNew(t *testing.T) { // the rule on memory: two answers share none
	first := digest.Keys()
	first[0], first[63] = 0, 0
	if again := digest.Keys(); again[0] != 0x428a2f98 || again[63] != 0xc67178f2 {
		t.Errorf("Keys: %x", again)
	}
}

func TestCuts(t *testing.T) { // P6.2
	s := strings.Repeat("outrider-", 15)[:130]
	for i := range len(s) + 1 {
		checkSum(t, s, s[:i], s[i:])
		checkSum(t, s, "", s[:i/2], "", s[i/2:i], s[i:], "")
	}
	checkSum(t, s, strings.Split(s, "")...)
}

func TestCutsByChance(t *testing.T) { // P6.2, P1
	r := rand.New(rand.NewPCG(6, 2))
	for range 500 {
		b := make([]byte, r.IntN(700))
		for i := range b {
			b[i] = byte(r.Uint32())
		}
		s := string(b)
		var parts []string
		for rest := s; rest != ""; {
			n := r.IntN(len(rest) + 1)
			parts = append(parts, rest[:n])
			rest = rest[n:]
		}
		checkSum(t, s, parts...)
	}
}

func TestOrderMatters(t *testing.T) { // P6.1: one behind the other
	if digest.Sum("a", "b") == digest.Sum("b", "a") {
		t.Error("Sum of turned parts is the same")
	}
	checkSum(t, "cab", "c", "a", "b")
}

func TestPartsStay(t *testing.T) { // the rule on memory: what is handed in isn't changed, spare room included
	room := []string{"a", "b", "c", "d"}
	digest.Sum(room[:2]...)
	digest.Text(room[:2]...)
	if got := strings.Join(room, " "); got != "a b c d" {
		t.Errorf("the parts are %q", got)
	}
}
