// Package throw lets whoever goes deep into a program leave it at the first fault, all at once: by a panic that is caught at the edge.
package throw

import "yieldshape/api"

// Fault throws a fault: whoever called Caught goes on with it.
func Fault(err api.Errno, at int) {
	panic(api.Fault{Err: err, At: at})
}

// Caught answers the fault that work throws, if it throws one. Work throws by Fault alone.
func Caught(work func()) (f api.Fault) {
	defer func() {
		if thrown := recover(); thrown != nil {
			f = thrown.(api.Fault)
		}
	}()
	work()
	return f
}
