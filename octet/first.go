package octet

import "pigeonry/api"

// first is the first error of a writer or a reader, which stays.
type first struct {
	// made is set by the calls that make writers and readers, so that the zero
	// value, which none of them made, is known.
	made bool
	err  api.Errno
}

// stays tells the error that every call answers from now on, or OK.
func (f *first) stays() api.Errno {
	if !f.made {
		return api.ErrNil
	}
	return f.err
}

// fail makes an error the first one. It is called where none stays.
func (f *first) fail(err api.Errno) api.Errno {
	f.err = err
	return err
}
