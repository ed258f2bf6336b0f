package dyad

import "sluiceway/api"

// fault is what goes wrong within: the code that the face tells.
type fault int

// told is what reckon answers, or nought and the code of the fault that it panics as.
func told(reckon func() api.Dyad) (d api.Dyad, code int) {
	defer func() {
		switch wrong := recover().(type) {
		case nil:
		case fault:
			d, code = api.Dyad{}, int(wrong)
		default:
			// Nothing else is foreseen: it must not pass for an answer.
			panic(wrong)
		}
	}()
	return reckon(), api.OK
}

// checked is d, if it may be.
func checked(d api.Dyad) api.Dyad {
	if !May(d) {
		panic(fault(api.ErrArg))
	}
	return d
}

// natural is what a call of nat answered, if it answered without an error.
func natural(m []uint64, code int) []uint64 {
	if code != api.OK {
		panic(fault(code))
	}
	return m
}
