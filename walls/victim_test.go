package walls

import (
	"math/rand"
	"reflect"
	"testing"

	"walls/api"
)

func TestP7Examples(t *testing.T) {
	for _, k := range []struct {
		n       int
		touched []int
		v       int
	}{
		{1, nil, 0}, {1, []int{}, 0}, {1, []int{0, 0}, 0},
		{2, nil, 0}, {2, []int{}, 0}, {2, []int{0}, 1}, {2, []int{1}, 0}, {2, []int{0, 1, 0}, 1}, {2, []int{0, 0, 1}, 0},
		{4, nil, 0}, {4, []int{0}, 2}, {4, []int{1}, 2}, {4, []int{2}, 0}, {4, []int{3}, 0},
		{4, []int{0, 2}, 1}, {4, []int{2, 0}, 3}, {4, []int{3, 1}, 2}, {4, []int{1, 3}, 0},
		{4, []int{1, 2, 0}, 3}, {4, []int{0, 1, 2, 3}, 0}, {4, []int{1, 0, 2, 3}, 1}, {4, []int{3, 2, 1, 1}, 3},
	} {
		if v, e := Victim(k.n, k.touched); v != k.v || e != api.OK {
			t.Errorf("P7: Victim(%d, %v) = %d, %d, want %d", k.n, k.touched, v, e, k.v)
		}
	}
}

func TestP7Wrong(t *testing.T) {
	for _, n := range append([]int{-4, 3, 5, 6, 7, 8, 16, 64}, extremes...) {
		for _, touched := range [][]int{nil, {0}, {2}, extremes} {
			v, e := Victim(n, touched)
			if n == 1 && (touched == nil || touched[0] == 0) {
				continue
			}
			if v != 0 || e != api.ErrArg {
				t.Errorf("P7: Victim(%d, %v) = %d, %d, want 0, ErrArg", n, touched, v, e)
			}
		}
	}
	for _, n := range []int{1, 2, 4} {
		for _, wrong := range append([]int{n, n + 1, 2 * n, -n}, extremes...) {
			if wrong >= 0 && wrong < n {
				continue
			}
			for _, touched := range [][]int{{wrong}, {wrong, 0}, {0, wrong}, {0, wrong, n - 1}, append(repeated(1000, 0), wrong)} {
				if v, e := Victim(n, touched); v != 0 || e != api.ErrArg {
					t.Errorf("P7: %d of %d touched: Victim = %d, %d, want 0, ErrArg", wrong, n, v, e)
				}
			}
		}
	}
}

// A tree of ways has at every fork the half that is taken next: the lower one at first, and behind each touch the other one.
type tree struct {
	way         int
	upper       bool
	left, right *tree
}

func grow(low, n int) *tree {
	if n == 1 {
		return &tree{way: low}
	}
	return &tree{way: low + n/2, left: grow(low, n/2), right: grow(low+n/2, n/2)}
}

func (f *tree) touch(way int) {
	if f.left == nil {
		return
	}
	f.upper = way < f.way
	if f.upper {
		f.left.touch(way)
	} else {
		f.right.touch(way)
	}
}

func (f *tree) victim() int {
	for f.left != nil {
		if f.upper {
			f = f.right
		} else {
			f = f.left
		}
	}
	return f.way
}

func byTree(n int, touched []int) int {
	f := grow(0, n)
	for _, way := range touched {
		f.touch(way)
	}
	return f.victim()
}

// Every list of touches up to a length is tried.
func TestP7All(t *testing.T) {
	for _, k := range []struct{ n, long int }{{1, 12}, {2, 10}, {4, 7}} {
		lists := [][]int{{}}
		for len(lists) > 0 {
			list := lists[len(lists)-1]
			lists = lists[:len(lists)-1]
			want := byTree(k.n, list)
			if v, e := Victim(k.n, list); v != want || e != api.OK {
				t.Fatalf("P7: Victim(%d, %v) = %d, %d, want %d", k.n, list, v, e, want)
			}
			for way := 0; way < k.n && len(list) < k.long; way++ {
				lists = append(lists, append(append([]int{}, list...), way))
			}
		}
	}
}

func TestP7Drawn(t *testing.T) {
	r := rand.New(rand.NewSource(5))
	for i := 0; i < 5000; i++ {
		n := []int{1, 2, 4}[r.Intn(3)]
		list := make([]int, r.Intn(200))
		for j := range list {
			list[j] = r.Intn(n)
		}
		want := byTree(n, list)
		if v, e := Victim(n, list); v != want || e != api.OK {
			t.Fatalf("P7: Victim(%d, %v) = %d, %d, want %d", n, list, v, e, want)
		}
	}
}

// P1: a list of any length has its answer.
func TestP7Long(t *testing.T) {
	long := repeated(1000000, 3)
	if v, e := Victim(4, long); v != 0 || e != api.OK {
		t.Errorf("P7: Victim behind a million touches = %d, %d, want 0", v, e)
	}
	// Of the lower half nothing but the very first touch tells.
	long[0] = 0
	if v, e := Victim(4, long); v != 1 || e != api.OK {
		t.Errorf("P7: Victim behind a million touches = %d, %d, want 1", v, e)
	}
	long[0] = 4
	if v, e := Victim(4, long); v != 0 || e != api.ErrArg {
		t.Errorf("P7: Victim with a wrong first touch = %d, %d, want ErrArg", v, e)
	}
}

func TestP2Victim(t *testing.T) {
	for _, list := range [][]int{{}, {0}, {1, 2, 0}, {0, 1, 2, 3, 3}, {4, 0}, {0, -1}} {
		l, twin := roomy(list), roomy(list)
		Victim(4, l)
		Victim(3, l)
		if !reflect.DeepEqual(l[:cap(l)], twin[:cap(twin)]) {
			t.Errorf("P2: Victim wrote into %v: %v", list, l[:cap(l)])
		}
	}
	list := []int{0}
	Victim(4, list)
	list[0] = 3
	if v, e := Victim(4, list); v != 0 || e != api.OK {
		t.Errorf("P2: Victim of a list written into since = %d, %d, want 0", v, e)
	}
	if v, e := Victim(4, nil); v != 0 || e != api.OK {
		t.Errorf("P2: Victim of no touches behind others = %d, %d, want 0", v, e)
	}
}
