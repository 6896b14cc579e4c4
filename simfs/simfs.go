// Package simfs: a file system that runs full, reads short, refuses, is interrupted, and loses its power: see DOC.md, chapter 01.
package simfs

import (
	"slices"
	"sync"

	"mill/api"
)

// FS is a file system.
type FS struct {
	lock       sync.Mutex
	maxBytes   int
	maxFiles   int
	maxHandles int
	plan       api.FsConfig // only Short, Faults, Interrupt and Power of it count
	files      map[string]*body
	stats      api.FsStats   // what Stats tells is also what the plan goes by
	done       chan struct{} // closed just when stats.Stopped
	life       int           // a File of an earlier life is closed
}

// New makes a system without files.
func New(c api.FsConfig) (*FS, api.Errno) {
	if !sizesHold(c) || !planHolds(c) {
		return nil, api.ErrSystem
	}
	s := &FS{maxBytes: c.Capacity, maxFiles: c.Files, maxHandles: c.Handles, files: map[string]*body{}}
	s.begin(c)
	return s, api.OK
}

// Arm gives it a new plan.
func (s *FS) Arm(c api.FsConfig) api.Errno {
	if s == nil {
		return api.ErrNil
	}
	s.lock.Lock()
	defer s.lock.Unlock()
	if s.stats.Dark {
		return api.ErrPower
	}
	if !planHolds(c) {
		return api.ErrSystem
	}
	s.begin(c)
	return api.OK
}

// Interrupt interrupts by hand.
func (s *FS) Interrupt() {
	if s == nil {
		return
	}
	s.lock.Lock()
	defer s.lock.Unlock()
	s.stop()
}

// Cut turns the power off by hand.
func (s *FS) Cut() {
	if s == nil {
		return
	}
	s.lock.Lock()
	defer s.lock.Unlock()
	s.stats.Dark = true
}

// Stopped tells whether the interrupt has come.
func (s *FS) Stopped() bool {
	if s == nil {
		return false
	}
	s.lock.Lock()
	defer s.lock.Unlock()
	return s.stats.Stopped
}

// Done gives a channel that is closed when it comes.
func (s *FS) Done() <-chan struct{} {
	if s == nil {
		return nil
	}
	s.lock.Lock()
	defer s.lock.Unlock()
	return s.done
}

// Reboot begins the next life; of what was not synced each file keeps at most keep bytes.
func (s *FS) Reboot(keep int) api.Errno {
	if s == nil {
		return api.ErrNil
	}
	if keep < 0 {
		return api.ErrArg
	}
	s.lock.Lock()
	defer s.lock.Unlock()
	used := 0
	for _, b := range s.files {
		b.reboot(keep)
		used += len(b.data)
	}
	s.life++
	s.stats = api.FsStats{Used: used}
	s.begin(api.FsConfig{})
	return api.OK
}

// Stats counts what was done.
func (s *FS) Stats() api.FsStats {
	if s == nil {
		return api.FsStats{}
	}
	s.lock.Lock()
	defer s.lock.Unlock()
	return s.stats
}

func sizesHold(c api.FsConfig) bool {
	return c.Capacity >= 0 && c.Capacity <= api.MaxCapacity &&
		c.Files >= 1 && c.Files <= api.MaxFiles &&
		c.Handles >= 1 && c.Handles <= api.MaxHandles
}

func planHolds(c api.FsConfig) bool {
	return len(c.Short) <= api.MaxShort && !slices.ContainsFunc(c.Short, func(n int) bool { return n < 1 }) &&
		len(c.Faults) <= api.MaxFaults && !slices.ContainsFunc(c.Faults, badFault) &&
		c.Interrupt >= 0 && c.Power >= 0
}

func badFault(f api.Fault) bool {
	return f.Op >= api.Ops || f.Nth < 1 || f.Space && f.Op != api.OpWrite
}

// begin starts the counts anew under a plan. What is open and what lies in the files goes on, so those two counts do.
func (s *FS) begin(c api.FsConfig) {
	s.plan = c
	s.plan.Short = slices.Clone(c.Short)
	s.plan.Faults = slices.Clone(c.Faults)
	s.stats = api.FsStats{Open: s.stats.Open, Peak: s.stats.Open, Used: s.stats.Used, Most: s.stats.Used}
	s.done = make(chan struct{})
}

// call gives a call its two numbers and tells what refuses it ahead of its own errors: every call goes through here first.
func (s *FS) call(op api.Op) api.Errno {
	s.stats.Calls++
	s.stats.By[op]++
	if s.stats.Calls == s.plan.Interrupt {
		s.stop()
	}
	if s.plan.Power != 0 && s.stats.Calls >= s.plan.Power {
		s.stats.Dark = true
	}
	if s.stats.Dark {
		return api.ErrPower
	}
	for _, f := range s.plan.Faults {
		if f.Op != op || f.Nth != s.stats.By[op] {
			continue
		}
		if f.Space {
			return api.ErrSpace
		}
		return api.ErrIO
	}
	return api.OK
}

func (s *FS) stop() {
	if s.stats.Stopped {
		return
	}
	s.stats.Stopped = true
	// A system that New didn't make has no channel, and must not panic for it.
	if s.done != nil {
		close(s.done)
	}
}
