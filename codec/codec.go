// Package codec encodes values canonically. See shared/doc/01-codec.md.
package codec

import (
	"slices"

	"gridwright/api"
)

// Check validates a value.
func Check(v api.Value) (e api.Errno) {
	if !wellFormed(v) {
		return api.ErrArg
	}
	if depth(v) > api.MaxDepth {
		return api.ErrLimit
	}
	return api.OK
}

// Encode returns the encoding of a value.
func Encode(v api.Value) (b []byte, e api.Errno) {
	if e = Check(v); e != api.OK {
		return nil, e
	}
	w := writer{put: func(part string) { b = append(b, part...) }}
	w.value(v)
	return b, api.OK
}

// Decode returns the value of an encoding.
func Decode(b []byte) (v api.Value, e api.Errno) {
	defer func() {
		if recover() != nil {
			v, e = api.Value{}, api.ErrCode
		}
	}()
	r := reader{left: b}
	v = r.value(api.MaxDepth)
	if len(r.left) > 0 {
		panic(api.ErrCode)
	}
	return v, api.OK
}

// Size returns the length of the encoding of a value.
func Size(v api.Value) (n int, e api.Errno) {
	if e = Check(v); e != api.OK {
		return 0, e
	}
	w := writer{put: func(part string) { n += len(part) }}
	w.value(v)
	return n, api.OK
}

// Same reports whether two values are equal.
func Same(a, b api.Value) (same bool) {
	return a.Kind == b.Kind && a.N == b.N && a.S == b.S && slices.EqualFunc(a.L, b.L, Same)
}

func wellFormed(v api.Value) bool {
	switch v.Kind {
	case api.IntV:
		return v.S == "" && len(v.L) == 0
	case api.TextV:
		return v.N == 0 && len(v.L) == 0
	case api.ListV:
		return v.N == 0 && v.S == "" && allWellFormed(v.L)
	}
	return false
}

func allWellFormed(l []api.Value) bool {
	for _, v := range l {
		if !wellFormed(v) {
			return false
		}
	}
	return true
}

func depth(v api.Value) int {
	if v.Kind != api.ListV {
		return 0
	}
	deepest := 0
	for _, element := range v.L {
		deepest = max(deepest, depth(element))
	}
	return 1 + deepest
}
