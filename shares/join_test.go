package shares_test

import (
	"bytes"
	"testing"

	"gridwright/api"
	"gridwright/field"
	"gridwright/shares"
)

// P6.2
func TestJoin(t *testing.T) {
	for _, x := range []struct {
		l      []api.Share
		secret []byte
	}{
		{[]api.Share{share(4, 1, 1, 2, 7)}, []byte{7}},
		{[]api.Share{share(4, 2, 1, 2, 7)}, []byte{7}},
		{[]api.Share{share(4, 1, 1, 2, 7), share(4, 2, 1, 2, 7)}, []byte{7}},
		{[]api.Share{share(0, 1, 1, 1)}, nil},
		{[]api.Share{share(0, 2, 2, 3), share(0, 3, 2, 3)}, nil},
		{[]api.Share{share(0, 1, 2, 3, 4), share(0, 2, 2, 3, 7)}, []byte{5}},
		{[]api.Share{share(0, 1, 2, 3, 4), share(0, 3, 2, 3, 6)}, []byte{5}},
		{[]api.Share{share(0, 2, 2, 3, 7), share(0, 3, 2, 3, 6)}, []byte{5}},
		{[]api.Share{share(0, 2, 2, 3, 7, 27), share(0, 3, 2, 3, 6, 155)}, []byte{5, 0}},
		{[]api.Share{share(lastEpoch, 1, 3, 4, 1), share(lastEpoch, 2, 3, 4, 4), share(lastEpoch, 4, 3, 4, 16)}, []byte{0}},
	} {
		joins(t, x.l, x.secret)
	}
}

// P6.2: the chapter asks for any shares that are alike, also those that no secret has.
func TestJoinOfAnyShares(t *testing.T) {
	r := source(30)
	thresholds(func(threshold, many int) {
		all := numbered(r, 5, threshold, many, 1, 2, 3, 4, 5, 6, 7, 8)[:many]
		for bits := 1; bits < 1<<many; bits++ {
			l := chosen(all, bits)
			if len(l) < threshold {
				noJoin(t, l, api.ErrShare)
				continue
			}
			var secret []byte
			for place := range 5 {
				var xs, ys []byte
				for _, s := range l[:threshold] {
					xs, ys = append(xs, byte(s.Index)), append(ys, s.Data[place])
				}
				y, e := field.Through(xs, ys, 0)
				if e != api.OK {
					t.Fatal(e)
				}
				secret = append(secret, y)
			}
			joins(t, l, secret)
		}
	})
}

// P6.2: shares after the first ones do not matter, but they are checked.
func TestJoinOfFurtherShares(t *testing.T) {
	r := source(31)
	secret := someBytes(r, 6)
	l := split(t, secret, 2, 3, 7, someBytes(r, 12))
	for at := 3; at < 7; at++ {
		x := copied(l)
		clear(x[at].Data)
		joins(t, x, secret)
		x[at].Epoch++
		noJoin(t, x, api.ErrEpoch)
		x[at].Many++
		noJoin(t, x, api.ErrShare)
	}
	for at := range 3 {
		x := copied(l)
		x[at].Data[4] ^= 1
		if y, e := shares.Join(x); e != api.OK || y[4] == secret[4] || !bytes.Equal(y[:4], secret[:4]) || y[5] != secret[5] {
			t.Error("an altered share that matters:", at, y, e)
		}
	}
}

// P6.2
func TestJoinRefuses(t *testing.T) {
	for _, x := range []struct {
		l    []api.Share
		want api.Errno
	}{
		{nil, api.ErrShare},
		{[]api.Share{}, api.ErrShare},
		{[]api.Share{{}}, api.ErrShare},
		{[]api.Share{share(0, 1, 2, 2, 7)}, api.ErrShare},
		{[]api.Share{share(0, 1, 2, 2)}, api.ErrShare},
		{numbered(source(32), 3, 4, 8, 2, 5, 8), api.ErrShare},
		{numbered(source(32), 3, 8, 8, 1, 2, 3, 4, 5, 6, 7), api.ErrShare},
		{[]api.Share{share(0, 2, 2, 2, 7), share(0, 1, 2, 2, 7)}, api.ErrShare},
		{[]api.Share{share(0, 1, 2, 2, 7), share(0, 1, 2, 2, 7)}, api.ErrShare},
		{[]api.Share{share(0, 1, 2, 2, 7), share(0, 2, 2, 2)}, api.ErrShare},
		{[]api.Share{share(0, 1, 2, 2), share(0, 2, 2, 2, 7)}, api.ErrShare},
		{[]api.Share{share(0, 1, 1, 1, make([]byte, 65)...)}, api.ErrShare},
		{[]api.Share{share(0, 1, 2, 2, 7), share(1, 2, 2, 2, 7)}, api.ErrEpoch},
		{[]api.Share{share(-1, 1, 1, 2, 7)}, api.ErrEpoch},
		{[]api.Share{share(lastEpoch+1, 1, 1, 2, 7)}, api.ErrEpoch},
		// Too few shares that are not of one epoch: the epochs come first.
		{[]api.Share{share(0, 1, 3, 3, 7), share(1, 2, 3, 3, 7)}, api.ErrEpoch},
		{[]api.Share{share(-1, 1, 3, 3, 7)}, api.ErrEpoch},
	} {
		noJoin(t, x.l, x.want)
	}
}

// P6.2
func TestJoinLeavesItsArgument(t *testing.T) {
	l := numbered(source(33), 3, 2, 4, 1, 2, 3, 4)
	unchanged(t, l, nil, func() {
		first, _ := shares.Join(l)
		want := bytes.Clone(first)
		shares.Join(l[1:])
		if !bytes.Equal(first, want) {
			t.Error("the result changes")
		}
	})
}
