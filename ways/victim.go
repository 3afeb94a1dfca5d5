// Package ways tells which way of a set gives way to another line.
package ways

import "walls/api"

// Victim finds by halves which of n ways gives way, when those in touched were touched one after the other (P7).
func Victim(n int, touched []int) (int, api.Errno) {
	if n != 1 && n != 2 && n != 4 {
		return 0, api.ErrArg
	}
	for i := 0; i < len(touched); i++ {
		if touched[i] < 0 || touched[i] >= n {
			return 0, api.ErrArg
		}
	}
	low := 0
	for half := n / 2; half >= 1; half = half / 2 {
		last := lastTouched(touched, low, low+2*half)
		// -1 stands for no touch: then the lower half is taken, as it is if the upper one was touched last.
		if last >= low && last < low+half {
			low = low + half
		}
	}
	return low, api.OK
}

// lastTouched is the last number in touched that is at least low and below high, or -1.
func lastTouched(touched []int, low int, high int) int {
	for i := len(touched) - 1; i >= 0; i-- {
		if touched[i] >= low && touched[i] < high {
			return touched[i]
		}
	}
	return -1
}
