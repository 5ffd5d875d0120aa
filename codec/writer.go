package codec

import "gridwright/api"

// A writer puts the parts of encodings, one after the other. What becomes of a part is up to put, so that one and the same code writes an encoding and measures it.
type writer struct {
	put func(part string)
}

// value writes a value that is well-formed.
func (w writer) value(v api.Value) {
	writers := [...]func(w writer, v api.Value){
		api.IntV:  writeInt,
		api.TextV: writeText,
		api.ListV: writeList,
	}
	w.put(string([]byte{byte(v.Kind)}))
	writers[v.Kind](w, v)
}

func writeInt(w writer, v api.Value) {
	w.put(numeral(unsigned(v.N)))
}

func writeText(w writer, v api.Value) {
	w.put(numeral(uint64(len(v.S))))
	w.put(v.S)
}

func writeList(w writer, v api.Value) {
	w.put(numeral(uint64(len(v.L))))
	for _, element := range v.L {
		w.value(element)
	}
}
