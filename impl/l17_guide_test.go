package impl

import (
	"errors"
	"testing"
)

// No argument leads to another fault, so it is asked for here that none but a step's own is made an answer.
func TestWhatGoesWell(t *testing.T) {
	done := false
	if !goesWell(func() { done = true }) || !done {
		t.Error("what goes well does not")
	}
	if goesWell(func() { panic(errLost) }) {
		t.Error("what can't be followed goes well")
	}
	for _, fault := range []any{errors.New(errLost.Error()), "lost", errEnd} {
		if told := faultOf(func() { panic(fault) }); told != fault {
			t.Error(fault, "became", told)
		}
	}
}

func faultOf(do func()) (fault any) {
	defer func() { fault = recover() }()
	goesWell(do)
	return nil
}
