package fault

import (
	"slices"
	"testing"

	"airline/api"
)

func TestAdd(t *testing.T) {
	first := api.Fault{Err: api.ErrName, At: "carrier"}
	for _, c := range []struct {
		faults []api.Fault
		found  []api.Errno
		want   []api.Fault
	}{
		{nil, nil, nil},
		{nil, []api.Errno{api.OK, api.OK}, nil},
		{nil, []api.Errno{api.ErrArg}, []api.Fault{{Err: api.ErrArg, At: "leg 0"}}},
		{[]api.Fault{first}, nil, []api.Fault{first}},
		{[]api.Fault{first}, []api.Errno{api.OK}, []api.Fault{first}},
		// In the order in which they were found, the same one twice.
		{[]api.Fault{first}, []api.Errno{api.ErrPlace, api.OK, api.ErrArg, api.ErrArg}, []api.Fault{first, {Err: api.ErrPlace, At: "leg 0"}, {Err: api.ErrArg, At: "leg 0"}, {Err: api.ErrArg, At: "leg 0"}}},
	} {
		if got := Add(c.faults, "leg 0", c.found...); !slices.Equal(got, c.want) {
			t.Errorf("Add(%v, %v) = %v", c.faults, c.found, got)
		}
	}
}

func TestWhen(t *testing.T) {
	if e := When(true, api.ErrPlace); e != api.ErrPlace {
		t.Error(e)
	}
	if e := When(false, api.ErrPlace); e != api.OK {
		t.Error(e)
	}
	if e := When(true, api.OK); e != api.OK {
		t.Error(e)
	}
}
