package temps

import (
	"cmp"
	"maps"
	"slices"
	"strings"

	"mill/api"
	"mill/simfs"
)

// Registry knows a job's temporary files.
type Registry struct {
	fs     *simfs.FS
	prefix string
	avoid  map[string]struct{}
	used   int            // the numbers up to this one are used up
	names  map[string]int // the names, and as which of all that ever came in each of them came
	came   int            // how many ever came in
}

// New makes a registry; it never gives the names of avoid.
func New(fs *simfs.FS, prefix string, avoid ...string) (*Registry, api.Errno) {
	if fs == nil {
		return nil, api.ErrNil
	}
	if !isPrefix(prefix) {
		return nil, api.ErrPrefix
	}
	r := &Registry{fs: fs, prefix: strings.Clone(prefix), avoid: map[string]struct{}{}}
	for _, name := range avoid {
		r.avoid[strings.Clone(name)] = struct{}{}
	}
	return r, api.OK
}

// Reserve gives a name that no file has.
func (r *Registry) Reserve() (string, api.Errno) {
	if r == nil {
		return "", api.ErrNil
	}
	for r.used < api.MaxTemps {
		name := tempName(r.prefix, r.used+1)
		if r.knows(name) {
			r.used++
			continue
		}
		_, e := r.fs.Stat(name)
		if e != api.OK && e != api.ErrMissing {
			return "", e
		}
		r.used++
		if e == api.ErrMissing {
			return name, api.OK
		}
	}
	return "", api.ErrTemps
}

// Create makes the file of a name.
func (r *Registry) Create(name string) (*simfs.File, api.Errno) {
	if r == nil {
		return nil, api.ErrNil
	}
	if r.has(name) {
		return nil, api.ErrArg
	}
	f, e := r.fs.Open(name, api.ModeNew)
	if e != api.OK {
		return nil, e
	}
	r.enter(name)
	return f, api.OK
}

// Make reserves and creates.
func (r *Registry) Make() (*simfs.File, string, api.Errno) {
	name, e := r.Reserve()
	if e != api.OK {
		return nil, "", e
	}
	f, e := r.Create(name)
	if e != api.OK {
		return nil, "", e
	}
	return f, name, api.OK
}

// Adopt takes a name in.
func (r *Registry) Adopt(name string) api.Errno {
	if r == nil {
		return api.ErrNil
	}
	if r.has(name) {
		return api.ErrArg
	}
	r.enter(name)
	return api.OK
}

// Drop removes a file.
func (r *Registry) Drop(name string) api.Errno {
	if r == nil {
		return api.ErrNil
	}
	if !r.has(name) {
		return api.ErrArg
	}
	if e := r.remove(name); e != api.ErrMissing {
		return e
	}
	return api.OK
}

// Release lets a name go; the file stays.
func (r *Registry) Release(name string) bool {
	if r == nil || !r.has(name) {
		return false
	}
	delete(r.names, name)
	return true
}

// Names tells the names, in their order.
func (r *Registry) Names() []string {
	if r == nil {
		return nil
	}
	l := r.inOrder()
	for i, name := range l {
		l[i] = strings.Clone(name)
	}
	return l
}

// Sweep removes all files; how many, and the first refusal.
func (r *Registry) Sweep() (int, api.Errno) {
	if r == nil {
		return 0, api.ErrNil
	}
	removed, refusal := 0, api.OK
	for _, name := range r.inOrder() {
		switch e := r.remove(name); {
		case e == api.OK:
			removed++
		case e != api.ErrMissing && refusal == api.OK:
			refusal = e
		}
	}
	return removed, refusal
}

// knows tells whether a name is never to be reserved.
func (r *Registry) knows(name string) bool {
	_, avoided := r.avoid[name]
	return avoided || r.has(name)
}

// has tells whether a name is in the registry.
func (r *Registry) has(name string) bool {
	_, ok := r.names[name]
	return ok
}

// enter lets a name come in.
func (r *Registry) enter(name string) {
	// Made here, as a Registry that New didn't make must not panic.
	if r.names == nil {
		r.names = map[string]int{}
	}
	r.names[strings.Clone(name)] = r.came
	r.came++
}

// remove takes a file away. Its name stays only if the file may still be there.
func (r *Registry) remove(name string) api.Errno {
	e := r.fs.Remove(name)
	if e == api.OK || e == api.ErrMissing {
		delete(r.names, name)
	}
	return e
}

// inOrder gives the names as they came in.
func (r *Registry) inOrder() []string {
	return slices.SortedFunc(maps.Keys(r.names), func(a, b string) int { return cmp.Compare(r.names[a], r.names[b]) })
}
