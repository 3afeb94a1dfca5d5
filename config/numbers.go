package config

func within(n int, low int, high int) bool {
	return low <= n && n <= high
}

func oneTwoFour(n int) bool {
	return n == 1 || n == 2 || n == 4
}

// listRight tells whether a list has from 1 to most numbers, all of them from low to high.
// The length comes first, so that a list of any length is looked through only if it is short.
func listRight(list []int, most int, low int, high int) bool {
	if !within(len(list), 1, most) {
		return false
	}
	for i := 0; i < len(list); i++ {
		if !within(list[i], low, high) {
			return false
		}
	}
	return true
}

func count(list []int, n int) int {
	found := 0
	for i := 0; i < len(list); i++ {
		if list[i] == n {
			found++
		}
	}
	return found
}
