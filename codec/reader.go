package codec

import "gridwright/api"

// A reader takes values from the beginning of the bytes that are left. It panics where no encoding begins with them.
type reader struct {
	left []byte
}

// value reads a value whose depth is at most room.
func (r *reader) value(room int) api.Value {
	switch kind := int(r.next()); kind {
	case api.IntV:
		return api.Value{Kind: kind, N: signed(r.numeral())}
	case api.TextV:
		return api.Value{Kind: kind, S: string(r.take(r.numeral()))}
	case api.ListV:
		return api.Value{Kind: kind, L: r.list(room)}
	}
	panic(api.ErrCode)
}

// list reads the elements of a list whose depth is at most room. It makes no space for them in advance, because their number may be a lie.
func (r *reader) list(room int) (l []api.Value) {
	if room == 0 {
		panic(api.ErrCode)
	}
	for range r.numeral() {
		l = append(l, r.value(room-1))
	}
	return l
}

func (r *reader) numeral() (u uint64) {
	for shift := 0; ; shift += digitBits {
		digit := r.next()
		if shift == lastShift && digit > maxLast {
			panic(api.ErrCode)
		}
		u += uint64(digit%base) << shift
		if digit >= base {
			continue
		}
		if shift > 0 && digit == 0 {
			panic(api.ErrCode)
		}
		return u
	}
}

func (r *reader) next() byte {
	return r.take(1)[0]
}

// take returns the next n bytes.
func (r *reader) take(n uint64) []byte {
	end := len(r.left)
	if n > uint64(end) {
		panic(api.ErrCode)
	}
	part := r.left[:n:n]
	r.left = r.left[n:end:end]
	return part
}
