package post

import (
	"errors"
	"strconv"

	"jigsaw/api"
)

// What may be wrong behind the declarations' types and the constraints.
var (
	errType = errors.New("not of its type")
	errName = errors.New("no such name")
	errOut  = errors.New("no output")
	errDeep = errors.New("too deep")
)

// fault is what is wrong, in which part of a program, and at which of its numbers.
type fault struct {
	part int
	at   int
	why  error
}

func (f fault) Error() string {
	return "part " + strconv.Itoa(f.part) + ", " + strconv.Itoa(f.at) + ": " + f.why.Error()
}

func (f fault) Unwrap() error {
	return f.why
}

// number is an error's number.
func number(err error) api.Errno {
	switch {
	case errors.Is(err, errName):
		return api.ErrName
	case errors.Is(err, errOut):
		return api.ErrOut
	case errors.Is(err, errDeep):
		return api.ErrState
	}
	return api.ErrType
}
