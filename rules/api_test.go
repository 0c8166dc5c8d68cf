// Package rules has tests of what holds for all layers together.
package rules

import (
	"testing"

	"rubric/api"
)

// The document's limits: package api is given, and what stands in it is what the document says.
func TestLimits(t *testing.T) {
	if api.MaxBytes != 1048576 || api.MaxDepth != 64 || api.MaxBudget != 1048576 || api.Bad != -1 {
		t.Error("a limit is not the document's:", api.MaxBytes, api.MaxDepth, api.MaxBudget, api.Bad)
	}
}

// The document's errors are numbers of a type of their own, from 0 on in this order.
func TestErrors(t *testing.T) {
	errors := []api.Errno{
		api.OK, api.ErrArg, api.ErrNil, api.ErrRange, api.ErrForm,
		api.ErrLong, api.ErrNone, api.ErrKind, api.ErrName, api.ErrTaken,
	}
	for i, e := range errors {
		if int(e) != i {
			t.Errorf("error %d is %d", i, e)
		}
	}
}
