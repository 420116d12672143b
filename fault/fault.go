// Package fault collects the violations that the Check functions of the layers return. It is no layer itself.
package fault

import "airline/api"

// Add adds the errors of an element to violations, in their order. OK is no error.
func Add(faults []api.Fault, at string, found ...api.Errno) []api.Fault {
	for _, e := range found {
		if e != api.OK {
			faults = append(faults, api.Fault{Err: e, At: at})
		}
	}
	return faults
}

// When returns the error of a rule, if it is violated.
func When(violated bool, e api.Errno) api.Errno {
	if violated {
		return e
	}
	return api.OK
}
