// Package fault is how layers tell what goes wrong within: it panics as a
// Code, and is recovered at the layer's face.
package fault

import "sluiceway/api"

// Code is what goes wrong within: the code that the face tells.
type Code int

// Told is what reckon answers; or a zero value, and the Code that it panics as.
func Told[T any](reckon func() T) (answer T, code int) {
	defer func() {
		switch wrong := recover().(type) {
		case nil:
		case Code:
			code = int(wrong)
		default:
			// Nothing else is foreseen: it must not pass for an answer.
			panic(wrong)
		}
	}()
	return reckon(), api.OK
}

// Must is what a call answered, if it answered without an error.
func Must[T any](answer T, code int) T {
	Check(code)
	return answer
}

// Check panics, if code is an error.
func Check(code int) {
	if code != api.OK {
		panic(Code(code))
	}
}
