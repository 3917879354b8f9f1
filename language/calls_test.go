package language

import (
	"boatswain/age"
	"boatswain/api"
	"boatswain/bitq"
	"boatswain/cbs"
	"boatswain/exec"
	"boatswain/gtab"
	"boatswain/key"
	"boatswain/num"
	"boatswain/pheap"
	"boatswain/pimutex"
	"boatswain/procs"
	"boatswain/prog"
	"boatswain/ready"
	"boatswain/run"
	"boatswain/sched"
	"boatswain/script"
	"boatswain/wheel"
)

// The calls that the chapters list, with their signatures: what is laid otherwise does not build.

// num
var (
	_ func(a, b uint64) uint64         = num.Add
	_ func(a, b uint64) uint64         = num.Sub
	_ func(a, b uint64) api.U128       = num.Mul
	_ func(a, b, c, d uint64) bool     = num.Less
	_ func(part, whole uint64) float64 = num.Share
	_ func(x float64) float64          = num.Clamp
	_ func(l ...float64) float64       = num.Mean
	_ func(w [4]uint64) int            = num.Highest
)

// bitq
var (
	_ func(n int) *bitq.Queue                           = bitq.New
	_ func(_ *bitq.Queue, level byte, id int) api.Errno = (*bitq.Queue).Push
	_ func(*bitq.Queue) (level byte, id int, ok bool)   = (*bitq.Queue).Pop
	_ func(_ *bitq.Queue, id int) api.Errno             = (*bitq.Queue).Remove
	_ func(*bitq.Queue) (level byte, id int, ok bool)   = (*bitq.Queue).Top
	_ func(_ *bitq.Queue, id int) (byte, bool)          = (*bitq.Queue).Level
	_ func(*bitq.Queue) [4]uint64                       = (*bitq.Queue).Mask
	_ func(_ *bitq.Queue, level byte) []int             = (*bitq.Queue).List
	_ func(*bitq.Queue) int                             = (*bitq.Queue).Len
	_ func(*bitq.Queue) *bitq.Queue                     = (*bitq.Queue).Fork
)

// pheap
var (
	_ func(n int) *pheap.Heap                                     = pheap.New
	_ func(_ *pheap.Heap, id int, deadline, seq uint64) api.Errno = (*pheap.Heap).Insert
	_ func(_ *pheap.Heap, id int, deadline, seq uint64) api.Errno = (*pheap.Heap).Change
	_ func(_ *pheap.Heap, id int) api.Errno                       = (*pheap.Heap).Delete
	_ func(*pheap.Heap) (id int, ok bool)                         = (*pheap.Heap).Min
	_ func(*pheap.Heap) (id int, ok bool)                         = (*pheap.Heap).Take
	_ func(_ *pheap.Heap, id int) (deadline, seq uint64, ok bool) = (*pheap.Heap).Get
	_ func(*pheap.Heap) []int                                     = (*pheap.Heap).List
	_ func(*pheap.Heap) int                                       = (*pheap.Heap).Len
	_ func(*pheap.Heap) *pheap.Heap                               = (*pheap.Heap).Fork
)

// wheel
var (
	_ func(n int) *wheel.Wheel                          = wheel.New
	_ func(_ *wheel.Wheel, id int, at uint64) api.Errno = (*wheel.Wheel).Set
	_ func(_ *wheel.Wheel, id int) api.Errno            = (*wheel.Wheel).Cancel
	_ func(_ *wheel.Wheel, to uint64) []int             = (*wheel.Wheel).Advance
	_ func(*wheel.Wheel) uint64                         = (*wheel.Wheel).Now
	_ func(_ *wheel.Wheel, id int) (uint64, bool)       = (*wheel.Wheel).At
	_ func(*wheel.Wheel) (uint64, bool)                 = (*wheel.Wheel).Next
	_ func(*wheel.Wheel) int                            = (*wheel.Wheel).Len
	_ func(*wheel.Wheel) *wheel.Wheel                   = (*wheel.Wheel).Fork
)

// prog
var (
	_ func(p []api.Instr) (api.Errno, int)    = prog.Check
	_ func(p []api.Instr) ([]byte, api.Errno) = prog.Encode
	_ func(b []byte) ([]api.Instr, api.Errno) = prog.Decode
	_ func(p []api.Instr, at int) []int       = prog.Next
)

// gtab
var (
	_ func(n int) *gtab.Table                               = gtab.New
	_ func(*gtab.Table) (api.Id, api.Errno)                 = (*gtab.Table).Alloc
	_ func(_ *gtab.Table, id api.Id) api.Errno              = (*gtab.Table).Release
	_ func(_ *gtab.Table, id api.Id, s api.State) api.Errno = (*gtab.Table).Move
	_ func(_ *gtab.Table, id api.Id) (api.State, bool)      = (*gtab.Table).State
	_ func(*gtab.Table) []api.Id                            = (*gtab.Table).Live
	_ func(from, to api.State) bool                         = gtab.May
	_ func(*gtab.Table) int                                 = (*gtab.Table).Len
	_ func(*gtab.Table) *gtab.Table                         = (*gtab.Table).Fork
)

// cbs
var (
	_ func(procs int) *cbs.Servers                                 = cbs.New
	_ func(_ *cbs.Servers, budget, period uint64) (int, api.Errno) = (*cbs.Servers).Admit
	_ func(_ *cbs.Servers, i int, now uint64) api.Errno            = (*cbs.Servers).Wake
	_ func(_ *cbs.Servers, i int) (spent bool, e api.Errno)        = (*cbs.Servers).Charge
	_ func(_ *cbs.Servers, now uint64) []int                       = (*cbs.Servers).Refill
	_ func(_ *cbs.Servers, i int) uint64                           = (*cbs.Servers).Left
	_ func(_ *cbs.Servers, i int) uint64                           = (*cbs.Servers).Deadline
	_ func(_ *cbs.Servers, i int) bool                             = (*cbs.Servers).Active
	_ func(*cbs.Servers) uint64                                    = (*cbs.Servers).Sum
	_ func(*cbs.Servers) int                                       = (*cbs.Servers).Len
	_ func(*cbs.Servers) *cbs.Servers                              = (*cbs.Servers).Fork
)

// key
var (
	_ func(level byte) api.Key      = key.Fixed
	_ func(deadline uint64) api.Key = key.Dead
	_ func(k api.Key) bool          = key.Right
	_ func(a, b api.Key) bool       = key.Above
	_ func(a, b api.Key) api.Key    = key.Max
	_ func(k api.Key) api.U128      = key.Rank
)

// pimutex
var (
	_ func(threads, mutexes int) *pimutex.Graph                = pimutex.New
	_ func(_ *pimutex.Graph, t int, k api.Key) api.Errno       = (*pimutex.Graph).Base
	_ func(_ *pimutex.Graph, t, m int) (got bool, e api.Errno) = (*pimutex.Graph).Lock
	_ func(_ *pimutex.Graph, t, m int) (next int, e api.Errno) = (*pimutex.Graph).Unlock
	_ func(_ *pimutex.Graph, t int) api.Key                    = (*pimutex.Graph).Key
	_ func(_ *pimutex.Graph, m int) int                        = (*pimutex.Graph).Owner
	_ func(_ *pimutex.Graph, t int) int                        = (*pimutex.Graph).Waits
	_ func(_ *pimutex.Graph, m int) []int                      = (*pimutex.Graph).Waiters
	_ func(_ *pimutex.Graph, t int) []int                      = (*pimutex.Graph).Held
	_ func(*pimutex.Graph) *pimutex.Graph                      = (*pimutex.Graph).Fork
)

// ready
var (
	_ func(n, most int) *ready.Set                    = ready.New
	_ func(_ *ready.Set, id int, k api.Key) api.Errno = (*ready.Set).Put
	_ func(_ *ready.Set, id int, k api.Key) api.Errno = (*ready.Set).Change
	_ func(_ *ready.Set, id int) api.Errno            = (*ready.Set).Remove
	_ func(*ready.Set) (int, api.Key, bool)           = (*ready.Set).Take
	_ func(*ready.Set) (int, api.Key, bool)           = (*ready.Set).Top
	_ func(_ *ready.Set, id int) (api.Key, bool)      = (*ready.Set).Key
	_ func(*ready.Set) []int                          = (*ready.Set).List
	_ func(*ready.Set) int                            = (*ready.Set).Len
	_ func(*ready.Set) *ready.Set                     = (*ready.Set).Fork
)

// procs
var (
	_ func(procs, threads, queue int) *procs.Procs                                     = procs.New
	_ func(_ *procs.Procs, proc, id int, k api.Key) api.Errno                          = (*procs.Procs).Put
	_ func(_ *procs.Procs, id int, k api.Key) api.Errno                                = (*procs.Procs).Change
	_ func(_ *procs.Procs, id int) api.Errno                                           = (*procs.Procs).Remove
	_ func(_ *procs.Procs, proc int, draw uint64) (id int, k api.Key, at int, ok bool) = (*procs.Procs).Best
	_ func(_ *procs.Procs, proc int, draw uint64) (id int, k api.Key, at int, ok bool) = (*procs.Procs).Take
	_ func(_ *procs.Procs, id int) (at int, ok bool)                                   = (*procs.Procs).Where
	_ func(_ *procs.Procs, at int) []int                                               = (*procs.Procs).List
	_ func(*procs.Procs) int                                                           = (*procs.Procs).Len
	_ func(*procs.Procs) *procs.Procs                                                  = (*procs.Procs).Fork
)

// age
var (
	_ func(base byte, since, now, period uint64) byte           = age.Level
	_ func(base byte, since, now, period uint64) (uint64, bool) = age.Next
)

// exec
var (
	_ func(p []api.Instr, f exec.Frame) (i api.Instr, next exec.Frame, busy bool) = exec.Step
	_ func(f exec.Frame) exec.Frame                                               = exec.Tick
	_ func(p []api.Instr, steps int) []api.Instr                                  = exec.Run
)

// sched
var (
	_ func(c api.Config) *sched.Machine                                                 = sched.New
	_ func(_ *sched.Machine, p []api.Instr) (int, api.Errno)                            = (*sched.Machine).Load
	_ func(_ *sched.Machine, budget, period uint64) (int, api.Errno)                    = (*sched.Machine).Admit
	_ func(_ *sched.Machine, prog int, level byte, server int) ([]api.Event, api.Errno) = (*sched.Machine).Start
	_ func(_ *sched.Machine, proc int, draw uint64) ([]api.Event, api.Errno)            = (*sched.Machine).Step
	_ func(*sched.Machine) []api.Event                                                  = (*sched.Machine).Tick
	_ func(*sched.Machine) uint64                                                       = (*sched.Machine).Now
	_ func(*sched.Machine) []sched.Thread                                               = (*sched.Machine).Threads
	_ func(_ *sched.Machine, proc int) (api.Id, bool)                                   = (*sched.Machine).Runs
	_ func(_ *sched.Machine, at int) []int                                              = (*sched.Machine).Waiting
	_ func(_ *sched.Machine, mutex int) int                                             = (*sched.Machine).Owner
	_ func(_ *sched.Machine, server int) uint64                                         = (*sched.Machine).Left
	_ func(_ *sched.Machine, i int) uint64                                              = (*sched.Machine).Deadline
	_ func(*sched.Machine) *sched.Machine                                               = (*sched.Machine).Fork
)

// script
var (
	_ func(l []script.Entry) ([]byte, api.Errno)      = script.Encode
	_ func(b []byte) ([]script.Entry, api.Errno, int) = script.Decode
	_ func(e script.Entry) bool                       = script.Right
	_ func(a, b script.Entry) bool                    = script.Same
)

// run
var (
	_ func(c api.Config, b []byte) (run.Result, api.Errno) = run.Run
	_ func(l ...[2]uint64) float64                         = run.Loads
)
