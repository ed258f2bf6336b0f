package fault_test

import (
	"errors"
	"testing"

	"sluiceway/api"
	"sluiceway/fault"
)

// call answers n beside a code.
func call(n, code int) (int, int) { return n, code }

func TestTold(t *testing.T) {
	if n, code := fault.Told(func() int { return 7 }); n != 7 || code != api.OK {
		t.Error("an answer:", n, code)
	}
	if s, code := fault.Told(func() []string { panic(fault.Code(api.ErrText)) }); s != nil || code != api.ErrText {
		t.Error("a panic:", s, code)
	}
}

func TestMust(t *testing.T) {
	n, code := fault.Told(func() int { return 2 * fault.Must(call(7, api.OK)) })
	if n != 14 || code != api.OK {
		t.Error("no error:", n, code)
	}
	for wrong := api.ErrArg; wrong <= api.ErrBytes; wrong++ {
		n, code := fault.Told(func() int { return 2 * fault.Must(call(7, wrong)) })
		if n != 0 || code != wrong {
			t.Error("an error:", n, code)
		}
	}
}

func TestCheck(t *testing.T) {
	for code := range 200 {
		_, got := fault.Told(func() int {
			fault.Check(code)
			return 0
		})
		if got != code {
			t.Errorf("of %d: %d", code, got)
		}
	}
}

// TestOthers: a panic that is no Code goes on.
func TestOthers(t *testing.T) {
	for _, other := range []any{"a text", 1, errors.New("an error")} {
		func() {
			defer func() {
				if got := recover(); got != other {
					t.Errorf("of %v: %v", other, got)
				}
			}()
			fault.Told(func() int { panic(other) })
			t.Errorf("%v did not go on", other)
		}()
	}
}
