package check

import (
	"errors"
	"strconv"

	"jigsaw/api"
)

// What may be wrong with a thing.
var (
	errForm  = errors.New("no such form")
	errSize  = errors.New("too many elements")
	errType  = errors.New("not of its type")
	errName  = errors.New("no such name")
	errTwice = errors.New("a name that is there already")
	errMore  = errors.New("not in the fragment")
)

// fault is what is wrong, and in which declaration.
type fault struct {
	decl int
	why  error
}

func (f fault) Error() string {
	return "declaration " + strconv.Itoa(f.decl) + ": " + f.why.Error()
}

func (f fault) Unwrap() error {
	return f.why
}

// number is an error's number: OK, if it is none.
func number(err error) api.Errno {
	switch {
	case err == nil:
		return api.OK
	case errors.Is(err, errForm):
		return api.ErrArg
	case errors.Is(err, errSize):
		return api.ErrSize
	case errors.Is(err, errName):
		return api.ErrName
	case errors.Is(err, errTwice):
		return api.ErrTwice
	case errors.Is(err, errMore):
		return api.ErrMore
	}
	return api.ErrType
}
