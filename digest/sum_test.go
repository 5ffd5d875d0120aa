package digest

import (
	"bytes"
	"crypto/sha256"
	"encoding/binary"
	"encoding/hex"
	"strings"
	"testing"

	"gridwright/api"
)

func hash(b []byte) api.Digest { return api.Digest(sha256.Sum256(b)) }

// tagged is the definition of Tagged, with another implementation of SHA-256.
func tagged(tag string, parts ...[]byte) api.Digest {
	mark := hash([]byte(tag))
	return hash(bytes.Join(append([][]byte{mark[:]}, parts...), nil))
}

// mixed returns n bytes that follow no simple pattern.
func mixed(n int) []byte {
	b := make([]byte, n)
	v := uint32(n)
	for i := range b {
		v = v*1664525 + 1013904223
		b[i] = byte(v >> 24)
	}
	return b
}

// P2.1
func TestSumsThatAreKnown(t *testing.T) {
	for i, x := range []struct{ text, want string }{
		{"", "e3b0c44298fc1c149afbf4c8996fb92427ae41e4649b934ca495991b7852b855"},
		{"abc", "ba7816bf8f01cfea414140de5dae2223b00361a396177a9cb410ff61f20015ad"},
		{"abcdbcdecdefdefgefghfghighijhijkijkljklmklmnlmnomnopnopq", "248d6a61d20638b8e5c026930c3e6039a33ce45964ff2167f6ecedd419db06c1"},
		{"abcdefghbcdefghicdefghijdefghijkefghijklfghijklmghijklmnhijklmnoijklmnopjklmnopqklmnopqrlmnopqrsmnopqrstnopqrstu", "cf5b16a778af8380036ce59e7b0492370b249b11e8f07a51afac45037afee9d1"},
		{strings.Repeat("a", 1000000), "cdc76e5c9914fb9281a1c7e284d73e67f1809a48a497200e046d39ccc7112cd0"},
	} {
		d := Sum([]byte(x.text))
		if got := hex.EncodeToString(d[:]); got != x.want {
			t.Error(i, got)
		}
	}
}

// P2.1
func TestSumsOfAllLengths(t *testing.T) {
	for n := range 400 {
		if b := mixed(n); Sum(b) != hash(b) {
			t.Error(n)
		}
		if b := make([]byte, n); Sum(b) != hash(b) {
			t.Error(n, "zeros")
		}
		if b := bytes.Repeat([]byte{255}, n); Sum(b) != hash(b) {
			t.Error(n, "ones")
		}
	}
	for _, n := range []int{1<<13 - 1, 1 << 13, 1<<16 + 55, 1<<16 + 56, 1<<21 - 9, 1 << 21} {
		if b := mixed(n); Sum(b) != hash(b) {
			t.Error(n)
		}
	}
}

// P2.1
func TestSumsOfSingleBits(t *testing.T) {
	for n := range 8 * 130 {
		b := make([]byte, 130)
		b[n/8] = 1 << (n % 8)
		if Sum(b) != hash(b) {
			t.Error(n)
		}
	}
}

// P2.1
func TestPaddedBytes(t *testing.T) {
	for _, n := range []uint64{0, 1, 55, 56, 63, 64, 119, 120, 1 << 13, 1<<29 - 1, 1 << 29, 1<<29 + 56, 1<<31 - 1} {
		tail := mixed(int(n % 64))
		b := lastBlocks(tail, n)
		end := len(b) - 8
		if len(b)%64 != 0 || end-len(tail) < 1 || end-len(tail) > 64 {
			t.Error(n, len(b))
			continue
		}
		zeros := bytes.Trim(b[len(tail)+1:end], "\x00")
		if !bytes.HasPrefix(b, tail) || b[len(tail)] != 0x80 || len(zeros) > 0 || binary.BigEndian.Uint64(b[end:]) != 8*n {
			t.Error(n, b)
		}
	}
}

// P2.1
func TestSumOfNil(t *testing.T) {
	if Sum(nil) != Sum([]byte{}) || Tagged("a", nil) != Tagged("a", []byte{}) {
		t.Error("nil and empty differ")
	}
}

// P2.1
func TestSumLeavesItsArgument(t *testing.T) {
	all := bytes.Repeat([]byte{7}, 300)
	for n := range 130 {
		Sum(all[:n])
		Tagged("tag", all[:n])
	}
	if !bytes.Equal(all, bytes.Repeat([]byte{7}, 300)) {
		t.Error("bytes were changed")
	}
}

// P2.1
func TestTagged(t *testing.T) {
	none := hash(nil)
	if Tagged("", nil) != hash(none[:]) {
		t.Error("the empty tag and no bytes")
	}
	for _, tag := range []string{"", "a", "ab", "leaf", "\xff\x00", strings.Repeat("t", 64), strings.Repeat("long", 100)} {
		for n := range 140 {
			if b := mixed(n); Tagged(tag, b) != tagged(tag, b) {
				t.Error(tag, n)
			}
		}
	}
	if Tagged("a", []byte("bc")) == Tagged("ab", []byte("c")) {
		t.Error("a tag runs into the bytes")
	}
}

// P2.1
func TestTaggedWithAKnownHash(t *testing.T) {
	// The hash of no bytes, hashed once more.
	const want = "5df6e0e2761359d30a8275058e299fcc0381534545f55cf43e41983f5d4c9456"
	d := Tagged("", nil)
	if got := hex.EncodeToString(d[:]); got != want {
		t.Error(got)
	}
}
