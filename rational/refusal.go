package rational

import "binnacle/api"

// refusal is what goes wrong in the depths: it comes out by panic, and is caught at the face.
type refusal struct {
	why api.Errno
}

func require(holds bool, why api.Errno) {
	if !holds {
		panic(refusal{why})
	}
}

// allow lets what a layer below told pass if it is no error.
func allow(why api.Errno) {
	require(why == api.OK, why)
}

// answered is what work comes to, or the error of the refusal that it was left by, beside a zero value.
func answered[T any](work func() T) (out T, why api.Errno) {
	defer func() {
		if thrown := recover(); thrown != nil {
			why = whyOf(thrown)
		}
	}()
	return work(), api.OK
}

// whyOf lets whatever is no refusal go on: that would be a fault of the program, and no error tells it.
func whyOf(thrown any) api.Errno {
	r, ours := thrown.(refusal)
	if !ours {
		panic(thrown)
	}
	return r.why
}
