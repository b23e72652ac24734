package script

import "blackroom/api"

// atEdge does what may throw a fault, and tells it: no fault is thrown beyond it. What was done until then is dropped.
func atEdge[T any](do func() T) (out T, fault api.Fault) {
	defer func() {
		if thrown := recover(); thrown != nil {
			// Nothing but faults is thrown: anything else would be a slip of the program, and is not to pass for an answer.
			fault = thrown.(api.Fault)
		}
	}()
	return do(), api.Fault{}
}

// throw leaves all that is being done, up to the edge.
func throw(err api.Errno, at int) { panic(api.Fault{Err: err, At: at}) }

// pass throws what is wrong, if something is.
func pass(err api.Errno, at int) {
	if err != api.OK {
		throw(err, at)
	}
}
