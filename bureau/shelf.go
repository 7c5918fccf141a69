package bureau

import "astragal/api"

// shelf keeps things under their names.
type shelf[T any] map[string]T

// find returns what is kept under a name.
func (s shelf[T]) find(name string) (thing T, e api.Errno) {
	thing, is := s[name]
	if !is {
		e = api.ErrNone
	}
	return thing, e
}

// room returns the error of keeping something more, under a name, where at most so many things can be.
func (s shelf[T]) room(name string, most int) api.Errno {
	if _, is := s[name]; is {
		return api.ErrTwice
	}
	if len(s) >= most {
		return api.ErrFull
	}
	return api.OK
}

// put keeps a thing under a name.
func (s *shelf[T]) put(name string, thing T) {
	if *s == nil {
		*s = shelf[T]{}
	}
	(*s)[name] = thing
}
