package journal_test

import (
	"bytes"
	"slices"
	"testing"

	"gridwright/api"
	"gridwright/journal"
)

// journalOf returns a journal with records of these lengths.
func journalOf(many, synced int, lengths ...int) api.Journal {
	j := api.Journal{Many: many, Synced: synced}
	for i, n := range lengths {
		j.Records = append(j.Records, filled(byte(i), n))
	}
	return j
}

// checks fails unless Check returns an error, and Room and Append agree with it.
func checks(t *testing.T, j api.Journal, want api.Errno) {
	t.Helper()
	if e := journal.Check(j); e != want {
		t.Error("Check:", j.Many, j.Synced, len(j.Records), e, want)
	}
	if want != api.OK {
		if n := journal.Room(j); n != 0 {
			t.Error("Room:", j.Many, j.Synced, len(j.Records), n)
		}
		noAppend(t, j, nil, want)
		noAppend(t, j, make([]byte, mostSectors*room+1), want)
	}
}

// P8.2
func TestCheckOfMany(t *testing.T) {
	for _, n := range []int{1, 2, 3, 255, 256, 4095, 4096} {
		checks(t, journalOf(n, 0), api.OK)
		checks(t, journalOf(n, 0, 0), api.OK)
		checks(t, journalOf(n, 1, 5), api.OK)
		checks(t, api.Journal{Many: n, Records: [][]byte{nil}}, api.OK)
		checks(t, api.Journal{Many: n, Records: [][]byte{}}, api.OK)
	}
	for _, n := range append(extremes(), 0) {
		checks(t, journalOf(n, 0), api.ErrArg)
		checks(t, journalOf(n, 0, 5), api.ErrArg)
		checks(t, journalOf(n, 1, 5), api.ErrArg)
		checks(t, journalOf(n, n), api.ErrArg)
	}
	checks(t, api.Journal{}, api.ErrArg)
}

// P8.2
func TestCheckOfSynced(t *testing.T) {
	for n := range 5 {
		l := make([]int, n)
		for k := -3; k < 9; k++ {
			want := api.ErrArg
			if 0 <= k && k <= n {
				want = api.OK
			}
			checks(t, journalOf(9, k, l...), want)
		}
		for _, k := range extremes() {
			checks(t, journalOf(9, k, l...), api.ErrArg)
		}
	}
}

// P8.2: records occupy as many sectors as the least number of pieces, but at least one.
func TestCheckCountsSectors(t *testing.T) {
	for _, n := range lengths() {
		for many := 1; many <= 10; many++ {
			j := journalOf(many, 0, n)
			checks(t, j, checkOf(j))
			for _, other := range lengths() {
				for synced := range 3 {
					j = journalOf(many, synced, n, other)
					checks(t, j, checkOf(j))
					j = journalOf(many, synced, n, 0, other)
					checks(t, j, checkOf(j))
				}
			}
		}
	}
}

// P8.2: the records of a journal can fill the longest disk.
func TestCheckOfFullJournals(t *testing.T) {
	checks(t, journalOf(mostSectors, 0, mostSectors*room), api.OK)
	checks(t, journalOf(mostSectors, 0, mostSectors*room+1), api.ErrArg)
	checks(t, journalOf(mostSectors, 1, mostSectors*room-room, room), api.OK)
	checks(t, journalOf(mostSectors, 1, mostSectors*room-room+1, 0), api.ErrArg)
	checks(t, journalOf(mostSectors, 7, make([]int, mostSectors)...), api.OK)
	checks(t, journalOf(mostSectors, 7, make([]int, mostSectors+1)...), api.ErrArg)
	checks(t, journalOf(mostSectors-1, 7, make([]int, mostSectors)...), api.ErrArg)
	b := make([]byte, 1<<24)
	checks(t, api.Journal{Many: mostSectors, Records: slices.Repeat([][]byte{b}, 1<<16)}, api.ErrArg)
}

// P8.2
func TestRoom(t *testing.T) {
	for _, x := range []struct {
		j    api.Journal
		want int
	}{
		{journalOf(1, 0), room},
		{journalOf(1, 0, 0), 0},
		{journalOf(1, 1, room), 0},
		{journalOf(1, 0, room+1), 0},
		{journalOf(2, 0), 2 * room},
		{journalOf(2, 0, 0), room},
		{journalOf(2, 1, 1), room},
		{journalOf(2, 1, room), room},
		{journalOf(2, 0, room+1), 0},
		{journalOf(2, 2, 0, 0), 0},
		{journalOf(2, 3, 0, 0), 0},
		{journalOf(2, -1, 0, 0), 0},
		{journalOf(9, 1, 0, room, room+1, 3*room), 2 * room},
		{journalOf(mostSectors, 0), mostSectors * room},
		{journalOf(mostSectors, 0, 5), (mostSectors - 1) * room},
		{journalOf(mostSectors+1, 0), 0},
		{journalOf(0, 0), 0},
		{journalOf(-1, 0), 0},
		{api.Journal{}, 0},
	} {
		if n := journal.Room(x.j); n != x.want {
			t.Error(x.j.Many, x.j.Synced, len(x.j.Records), n, x.want)
		}
	}
}

// P8.2: Room is what is left, and exactly so much can be appended.
func TestRoomAndAppend(t *testing.T) {
	for many := 1; many <= 6; many++ {
		for _, n := range lengths() {
			j := journalOf(many, 1, n)
			left := many - sectorsFor(j.Records[0])
			if left < 0 {
				checks(t, j, api.ErrArg)
				continue
			}
			if got := journal.Room(j); got != left*room {
				t.Error(many, n, got, left)
			}
			if left == 0 {
				noAppend(t, j, nil, api.ErrLimit)
			} else {
				x := appended(t, j, filled(7, left*room))
				noAppend(t, x, nil, api.ErrLimit)
				x = appended(t, j, filled(7, left*room-room+1))
				noAppend(t, x, nil, api.ErrLimit)
			}
			noAppend(t, j, filled(7, left*room+1), api.ErrLimit)
		}
	}
}

// P8.2
func TestAppend(t *testing.T) {
	r := source(10)
	for _, n := range lengths() {
		for _, synced := range []int{0, 1, 2} {
			j := journalOf(9, synced, 3, 300)
			b := someBytes(r, n)
			x, e := journal.Append(j, b)
			want := api.Journal{Records: [][]byte{j.Records[0], j.Records[1], b}, Many: 9, Synced: synced}
			if e != api.OK || !equal(x, want) {
				t.Error(n, synced, x, e)
			}
		}
	}
	noAppend(t, journalOf(1, 0), filled(1, room+1), api.ErrLimit)
	noAppend(t, journalOf(mostSectors, 0), make([]byte, mostSectors*room+1), api.ErrLimit)
	noAppend(t, journalOf(mostSectors, 0), make([]byte, 1<<24), api.ErrLimit)
	checks(t, appended(t, journalOf(mostSectors, 0), make([]byte, mostSectors*room)), api.OK)
}

// P8.2: a record without bytes, nil or empty, occupies one sector.
func TestAppendWithoutBytes(t *testing.T) {
	for _, b := range [][]byte{nil, {}} {
		j := journalOf(4, 0)
		for k := 4; k > 0; k-- {
			if n := journal.Room(j); n != k*room {
				t.Error(k, n)
			}
			j = appended(t, j, b)
		}
		noAppend(t, j, b, api.ErrLimit)
		if len(j.Records) != 4 || len(slices.Concat(j.Records...)) != 0 {
			t.Error(j)
		}
	}
}

// P8.2: a journal to which two different records are appended leads to two journals.
func TestAppendIsPure(t *testing.T) {
	j := journalOf(99, 1, 5, 112)
	for k := range 20 {
		b, c := filled(byte(k), k), filled(byte(k+100), k)
		unchanged(t, j, api.Disk{}, b, func() {
			x := appended(t, j, b)
			unchanged(t, x, api.Disk{}, c, func() {
				y := appended(t, j, c)
				if !bytes.Equal(y.Records[len(y.Records)-1], c) || len(y.Records) != len(x.Records) {
					t.Error(k, x, y)
				}
			})
			journal.Check(j)
			journal.Room(j)
		})
		j = appended(t, j, b)
	}
}
