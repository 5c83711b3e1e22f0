package world_test

import (
	"bytes"
	"math"
	"slices"
	"strings"
	"testing"

	"firkin/api"
	"firkin/world"
)

// none is numbers that are no fault's, all as FtOk.
func none() []int {
	return []int{-1, 3, 4, -2, 255, 256, 257, 258, 1<<32 + 1, 1<<32 + 2, math.MaxInt, math.MinInt, math.MinInt + 1, math.MinInt + 2}
}

// wrongNames is texts that are no objects' names.
func wrongNames() []string {
	return []string{"", "A", "a b", "a_b", "a-b", "v/Z", "ä", "a\x00", "\xff", " a", "a ", "a\n", "`", "{", ":", strings.Repeat("a", 25), strings.Repeat("a", 1<<16), strings.Repeat("/", 25)}
}

// unmade is worlds that New did not make.
func unmade() []*world.World {
	return []*world.World{nil, {}, new(world.World)}
}

// wantErr is whether a call was answered as it should be.
func wantErr(t *testing.T, what string, got, want api.Errno) {
	t.Helper()
	if got != want {
		t.Errorf("%s is answered %d, want %d", what, got, want)
	}
}

// with is a world of these objects, of the same bytes as their names.
func with(t *testing.T, names ...string) *world.World {
	t.Helper()
	w := world.New()
	for _, name := range names {
		wantErr(t, "Put of "+name, w.Put(name, []byte(name)), api.OK)
	}
	return w
}

// wantBytes is whether the object of that name has these bytes, without a fault that is in the way.
func wantBytes(t *testing.T, w *world.World, name, want string) {
	t.Helper()
	got, err := w.Get(name, 0, -1)
	if err != api.OK || string(got) != want {
		t.Errorf("%s has %q and error %d, want %q", name, got, err, want)
	}
	if size, there := w.Size(name); size != len(want) || !there {
		t.Errorf("Size of %s is %d, %v, want %d", name, size, there, len(want))
	}
}

// wantNone is whether there is no object of that name.
func wantNone(t *testing.T, w *world.World, name string) {
	t.Helper()
	if got, err := w.Get(name, 0, -1); len(got) != 0 || err != api.ErrNone {
		t.Errorf("%s has %q and error %d, want none", name, got, err)
	}
	if size, there := w.Size(name); size != 0 || there {
		t.Errorf("Size of %s is %d, %v, want none", name, size, there)
	}
}

// wantNames is whether there are just these objects.
func wantNames(t *testing.T, w *world.World, want ...string) {
	t.Helper()
	if got := w.Names(); !slices.Equal(got, want) {
		t.Errorf("Names are %q, want %q", got, want)
	}
}

// wantCounts is whether so many steps were done, and so many of them were requests.
func wantCounts(t *testing.T, what string, w *world.World, steps, asked int) {
	t.Helper()
	if w.Steps() != steps || w.Asked() != asked {
		t.Errorf("%s: %d steps, %d asked, want %d and %d", what, w.Steps(), w.Asked(), steps, asked)
	}
}

// request is one of the requests, as a call.
type request struct {
	what string
	ask  func(w *world.World) api.Errno
}

// get and list are requests whose answer is nothing, if there is an error.
func get(t *testing.T, name string, off, n int) request {
	return request{"Get", func(w *world.World) api.Errno {
		got, err := w.Get(name, off, n)
		if err != api.OK && len(got) != 0 {
			t.Errorf("Get of %s answers %q and error %d", name, got, err)
		}
		return err
	}}
}
func list(t *testing.T, prefix string) request {
	return request{"List", func(w *world.World) api.Errno {
		got, err := w.List(prefix)
		if err != api.OK && len(got) != 0 {
			t.Errorf("List of %q answers %q and error %d", prefix, got, err)
		}
		return err
	}}
}
func put(name, b string) request {
	return request{"Put", func(w *world.World) api.Errno { return w.Put(name, []byte(b)) }}
}
func putNew(name, b string) request {
	return request{"PutNew", func(w *world.World) api.Errno { return w.PutNew(name, []byte(b)) }}
}
func remove(name string) request {
	return request{"Delete", func(w *world.World) api.Errno { return w.Delete(name) }}
}

// all is each of the requests, as it may be, to a world that has an object "old".
func all(t *testing.T) []request {
	return []request{put("new", "1"), put("old", "2"), putNew("new", "3"), get(t, "old", 0, -1), get(t, "old", 1, 2), list(t, ""), list(t, "O?"), remove("old"), remove("new")}
}

// wrong is requests whose arguments may not be.
func wrong(t *testing.T) []request {
	var l []request
	for _, name := range wrongNames() {
		l = append(l, put(name, "1"), putNew(name, "1"), get(t, name, 0, -1), remove(name), get(t, name, -1, -2))
	}
	long := strings.Repeat("x", api.MaxObject+1)
	l = append(l, put("old", long), putNew("old", long), put("new", long), putNew("new", long), put("", long))
	for _, below := range []int{-1, -2, math.MinInt, math.MinInt + 1} {
		l = append(l, get(t, "old", below, -1), get(t, "old", below, 0), get(t, "old", below, 1), get(t, "new", below, math.MaxInt))
	}
	for _, below := range []int{-2, -3, math.MinInt, math.MinInt + 1} {
		l = append(l, get(t, "old", 0, below), get(t, "old", 3, below), get(t, "new", 99, below))
	}
	return l
}

// P24.2, P24.3: the example of the chapter; and a put that is tried again is there already.
func TestExample(t *testing.T) {
	w := world.New()
	w.Faults([]int{api.FtDone})
	wantErr(t, "Put", w.Put("a", []byte("bytes")), api.ErrAway)
	wantBytes(t, w, "a", "bytes")
	w.Faults([]int{api.FtDone})
	wantErr(t, "PutNew", w.PutNew("v/1", []byte("x")), api.ErrAway)
	wantErr(t, "PutNew, again", w.PutNew("v/1", []byte("y")), api.ErrThere)
	wantBytes(t, w, "v/1", "x")
}

// P24.1: a world that New made has power without end, no object, and has done nothing.
func TestNew(t *testing.T) {
	w := world.New()
	if !w.Made() || w.Dead() {
		t.Errorf("New is made: %v, dead: %v", w.Made(), w.Dead())
	}
	wantCounts(t, "New", w, 0, 0)
	wantNames(t, w)
	for range 3000 {
		wantErr(t, "Step", w.Step(), api.OK)
	}
	wantCounts(t, "3000 steps", w, 3000, 0)
}

// P24.1, P24.2: two worlds share nothing.
func TestWorldsShareNothing(t *testing.T) {
	w, other := with(t, "a", "b"), world.New()
	w.Faults([]int{api.FtLost})
	w.Fuse(0)
	wantErr(t, "Put", other.Put("c", nil), api.OK)
	wantNames(t, w, "a", "b")
	wantNames(t, other, "c")
	wantCounts(t, "one", w, 2, 2)
	wantCounts(t, "the other", other, 1, 1)
	if !w.Dead() || other.Dead() {
		t.Errorf("dead: %v and %v", w.Dead(), other.Dead())
	}
}

// P24.1, P24.2: of a nil World, and one that New did not make, all is ErrNil, ahead of ErrArg, or nothing.
func TestUnmade(t *testing.T) {
	for _, w := range unmade() {
		for range 2 {
			if w.Made() || w.Dead() {
				t.Errorf("made: %v, dead: %v", w.Made(), w.Dead())
			}
			wantErr(t, "Step", w.Step(), api.ErrNil)
			for _, r := range append(all(t), wrong(t)...) {
				wantErr(t, r.what, r.ask(w), api.ErrNil)
			}
			wantCounts(t, "unmade", w, 0, 0)
			wantNames(t, w)
			if size, there := w.Size("old"); size != 0 || there {
				t.Errorf("Size is %d, %v", size, there)
			}
			for _, n := range []int{-1, 0, 1, 5, math.MaxInt, math.MinInt} {
				w.Fuse(n)
				w.Faults([]int{n})
				w.Up()
			}
		}
		w.Fuse(0)
		if w.Made() || w.Dead() {
			t.Errorf("made: %v, dead: %v, behind a fuse", w.Made(), w.Dead())
		}
	}
}

// P24.1: with Fuse(n) the power goes behind n steps more, and no step is done then.
func TestFuse(t *testing.T) {
	for n := range 20 {
		w := world.New()
		for range n % 3 {
			w.Step()
		}
		w.Fuse(n)
		for i := range n {
			if w.Dead() {
				t.Fatalf("Fuse(%d): dead behind %d steps", n, i)
			}
			wantErr(t, "Step", w.Step(), api.OK)
		}
		for range 3 {
			if !w.Dead() {
				t.Fatalf("Fuse(%d): not dead behind %d steps", n, n)
			}
			wantErr(t, "Step of a dead one", w.Step(), api.ErrDead)
		}
		wantCounts(t, "Fuse", w, n%3+n, 0)
		if !w.Made() {
			t.Error("a dead one is not made")
		}
	}
}

// P24.1: of n below 0 the fuse is endless, whatever it was.
func TestEndlessFuse(t *testing.T) {
	for _, n := range []int{-1, -2, -3, -100, math.MinInt, math.MinInt + 1} {
		for _, ahead := range []int{-1, 1, 2, 3, 50, math.MinInt, math.MaxInt} {
			w := world.New()
			w.Fuse(ahead)
			w.Fuse(n)
			for range 300 {
				wantErr(t, "Step", w.Step(), api.OK)
			}
			if w.Dead() {
				t.Errorf("Fuse(%d), Fuse(%d): dead", ahead, n)
			}
		}
	}
	w := world.New()
	w.Fuse(math.MaxInt)
	for range 300 {
		wantErr(t, "Step", w.Step(), api.OK)
	}
}

// P24.1: a fuse is counted from when it is set, and the last one holds.
func TestFuseAnew(t *testing.T) {
	for ahead := 1; ahead < 6; ahead++ {
		for done := range ahead {
			for n := range 6 {
				w := world.New()
				w.Fuse(ahead)
				for range done {
					wantErr(t, "Step", w.Step(), api.OK)
				}
				w.Fuse(n)
				for range n {
					wantErr(t, "Step", w.Step(), api.OK)
				}
				wantErr(t, "Step behind the fuse", w.Step(), api.ErrDead)
				wantCounts(t, "fuses", w, done+n, 0)
			}
		}
	}
}

// P24.1: Fuse of a dead one is nothing; Up gives it power, and an endless fuse.
func TestUp(t *testing.T) {
	for _, n := range []int{-1, 0, 1, 2, 7, math.MaxInt, math.MinInt} {
		w := world.New()
		w.Fuse(0)
		w.Fuse(n)
		if !w.Dead() {
			t.Errorf("Fuse(%d) gives power", n)
		}
		wantErr(t, "Step", w.Step(), api.ErrDead)
		w.Up()
		for range 100 {
			wantErr(t, "Step behind Up", w.Step(), api.OK)
		}
		if w.Dead() {
			t.Errorf("Fuse(%d) of a dead one holds behind Up", n)
		}
		w.Fuse(2)
		w.Up()
		w.Up()
		for range 100 {
			wantErr(t, "Step behind Up of a fuse", w.Step(), api.OK)
		}
		wantCounts(t, "Up", w, 200, 0)
		w.Fuse(1)
		wantErr(t, "Step", w.Step(), api.OK)
		wantErr(t, "Step", w.Step(), api.ErrDead)
	}
}

// P24.1, P24.2: a request is a step, also one that is not done, or not answered; one that may not be is none, nor is one without power.
func TestCounts(t *testing.T) {
	for _, fault := range append(none(), api.FtOk, api.FtLost, api.FtDone) {
		w := with(t, "old")
		for i, r := range all(t) {
			w.Faults([]int{fault})
			r.ask(w)
			wantCounts(t, r.what, w, 2+2*i, 2+i)
			wantErr(t, "Step", w.Step(), api.OK)
		}
	}
	for _, r := range wrong(t) {
		w := with(t, "old")
		w.Fuse(1)
		wantErr(t, r.what+" that may not be", r.ask(w), api.ErrArg)
		wantCounts(t, r.what+" that may not be", w, 1, 1)
		wantErr(t, "Step, which is left", w.Step(), api.OK)
	}
	for _, r := range all(t) {
		w := with(t, "old")
		w.Fuse(0)
		wantErr(t, r.what+" without power", r.ask(w), api.ErrDead)
		wantCounts(t, r.what+" without power", w, 1, 1)
		wantNames(t, w, "old")
		w.Up()
		wantBytes(t, w, "old", "old")
	}
	for _, r := range []request{get(t, "none", 0, -1), get(t, "old", 4, 0), get(t, "old", 0, 4), putNew("old", "1"), remove("none"), list(t, "none")} {
		w := with(t, "old")
		r.ask(w)
		wantCounts(t, r.what, w, 2, 2)
	}
}

// P24.1, P24.2: what is done with the last step is answered, and the power is gone behind it.
func TestLastStep(t *testing.T) {
	for _, r := range all(t) {
		w := with(t, "old")
		w.Fuse(1)
		wantErr(t, r.what+" with the last step", r.ask(w), api.OK)
		if !w.Dead() {
			t.Errorf("%s does not take the last step", r.what)
		}
		wantErr(t, r.what+" behind the last step", r.ask(w), api.ErrDead)
	}
	w := world.New()
	w.Fuse(1)
	w.Faults([]int{api.FtDone})
	wantErr(t, "Put", w.Put("a", []byte("b")), api.ErrAway)
	w.Up()
	wantBytes(t, w, "a", "b")
}

// P24.2: ErrArg is ahead of ErrDead.
func TestArgumentsAreFirst(t *testing.T) {
	w := with(t, "old")
	w.Fuse(0)
	for _, r := range wrong(t) {
		wantErr(t, r.what, r.ask(w), api.ErrArg)
	}
	wantErr(t, "Get of none, dead", get(t, "none", 0, -1).ask(w), api.ErrDead)
	wantErr(t, "Get beyond, dead", get(t, "old", 9, 9).ask(w), api.ErrDead)
	wantErr(t, "PutNew of one that is there, dead", putNew("old", "").ask(w), api.ErrDead)
}

// P24.2: 1 to 24 bytes of a to z, 0 to 9, / and point, wherever they stand.
func TestName(t *testing.T) {
	letters := "abcdefghijklmnopqrstuvwxyz0123456789/."
	for c := range 256 {
		one := string([]byte{byte(c)})
		want := strings.Contains(letters, one)
		for _, s := range []string{one, "a" + one, one + "a", "o/0000" + one + "1.d", one + strings.Repeat("z", 23), strings.Repeat("/", 23) + one} {
			if world.Name(s) != want {
				t.Errorf("Name(%q) is %v", s, !want)
			}
		}
	}
	for size := 1; size <= 60; size++ {
		for _, c := range []string{"a", "z", "0", "9", "/", "."} {
			if s := strings.Repeat(c, size); world.Name(s) != (size <= 24) {
				t.Errorf("Name(%q) is %v", s, size > 24)
			}
		}
	}
	for _, s := range wrongNames() {
		if world.Name(s) {
			t.Errorf("Name(%q)", s)
		}
	}
	for _, s := range []string{"v/0000000012", letters[:24], letters[14:], "o/1", "..", "//", "0", "a.b/c"} {
		if !world.Name(s) {
			t.Errorf("not Name(%q)", s)
		}
	}
}

// P24.2: the faults are those of the requests, one by one, and none when none is left.
func TestFaults(t *testing.T) {
	w := world.New()
	w.Faults([]int{api.FtOk, api.FtLost, api.FtDone, 3, -1, api.FtLost, api.FtOk})
	for i, want := range []api.Errno{api.OK, api.ErrAway, api.ErrAway, api.OK, api.OK, api.ErrAway, api.OK, api.OK, api.OK} {
		name := "o/" + string(rune('0'+i))
		wantErr(t, "Put of "+name, w.Put(name, []byte(name)), want)
	}
	wantNames(t, w, "o/0", "o/2", "o/3", "o/4", "o/6", "o/7", "o/8")
	for _, fault := range none() {
		w.Faults([]int{fault, api.FtLost})
		wantErr(t, "a fault that is none", w.Put("a", nil), api.OK)
		wantErr(t, "the fault behind it", w.Put("a", nil), api.ErrAway)
		wantErr(t, "no fault", w.Put("a", nil), api.OK)
	}
}

// P24.2: the faults that were set ahead are gone, also where none is set.
func TestFaultsAnew(t *testing.T) {
	for _, l := range [][]int{nil, {}, {api.FtOk}} {
		w := world.New()
		w.Faults([]int{api.FtLost, api.FtLost, api.FtDone})
		wantErr(t, "List", list(t, "").ask(w), api.ErrAway)
		w.Faults(l)
		for range 4 {
			wantErr(t, "List behind faults that are gone", list(t, "").ask(w), api.OK)
		}
	}
	w := world.New()
	w.Faults([]int{api.FtLost})
	w.Faults([]int{api.FtOk, api.FtOk, api.FtDone})
	for _, want := range []api.Errno{api.OK, api.OK, api.ErrAway, api.OK} {
		wantErr(t, "Put", w.Put("a", nil), want)
	}
}

// P24.2: a fault is gone with a request that is a step, and with nothing else.
func TestFaultsStay(t *testing.T) {
	w := with(t, "old")
	w.Faults([]int{api.FtLost})
	for _, r := range wrong(t) {
		wantErr(t, r.what+" that may not be", r.ask(w), api.ErrArg)
	}
	for range 3 {
		wantErr(t, "Step", w.Step(), api.OK)
		w.Names()
		w.Size("old")
	}
	w.Fuse(1)
	wantErr(t, "Step", w.Step(), api.OK)
	for _, r := range all(t) {
		wantErr(t, r.what+" without power", r.ask(w), api.ErrDead)
	}
	w.Up()
	wantErr(t, "Put", w.Put("old", nil), api.ErrAway)
	wantBytes(t, w, "old", "old")
	for _, r := range []request{get(t, "none", 0, -1), get(t, "old", 4, 0), get(t, "old", 0, 4), putNew("old", "1"), remove("none"), list(t, "none")} {
		w.Faults([]int{api.FtOk, api.FtLost})
		r.ask(w)
		wantErr(t, "Put behind "+r.what, w.Put("old", nil), api.ErrAway)
	}
}

// P24.2: faults that are set without power are those of the requests behind it.
func TestFaultsOfDead(t *testing.T) {
	w := world.New()
	w.Fuse(0)
	w.Faults([]int{api.FtDone})
	wantErr(t, "Put", w.Put("a", nil), api.ErrDead)
	w.Up()
	wantErr(t, "Put", w.Put("a", nil), api.ErrAway)
	wantNames(t, w, "a")
}

// P24.2: the list of faults is not changed, and not kept.
func TestFaultsAreCopied(t *testing.T) {
	w := world.New()
	l := append(make([]int, 0, 10), api.FtLost, api.FtOk, api.FtDone)
	w.Faults(l)
	l[0], l[1], l[2] = api.FtOk, api.FtLost, api.FtOk
	for _, want := range []api.Errno{api.ErrAway, api.OK, api.ErrAway, api.OK} {
		wantErr(t, "Put", w.Put("a", nil), want)
	}
	if !slices.Equal(l[:4], []int{api.FtOk, api.FtLost, api.FtOk, 0}) {
		t.Errorf("the list is %v", l)
	}
}

// P24.2: of FtLost nothing is done, of FtDone all; of both it is ErrAway, whatever it would be answered.
func TestLostAndDone(t *testing.T) {
	for _, c := range []struct {
		request
		want []string // names and bytes, when it is done
	}{
		{put("new", "1"), []string{"new", "1", "old", "old"}},
		{put("old", "2"), []string{"old", "2"}},
		{putNew("new", "3"), []string{"new", "3", "old", "old"}},
		{putNew("old", "4"), []string{"old", "old"}},
		{get(t, "old", 0, -1), []string{"old", "old"}},
		{get(t, "none", 0, -1), []string{"old", "old"}},
		{get(t, "old", 4, -1), []string{"old", "old"}},
		{get(t, "old", 1, 3), []string{"old", "old"}},
		{list(t, ""), []string{"old", "old"}},
		{remove("old"), nil},
		{remove("none"), []string{"old", "old"}},
	} {
		for fault, want := range map[int][]string{api.FtLost: {"old", "old"}, api.FtDone: c.want} {
			w := with(t, "old")
			w.Faults([]int{fault})
			wantErr(t, c.what, c.ask(w), api.ErrAway)
			var names []string
			for i := 0; i < len(want); i += 2 {
				names = append(names, want[i])
				wantBytes(t, w, want[i], want[i+1])
			}
			wantNames(t, w, names...)
		}
	}
}

// P24.3: Put gives an object its bytes, whether there was one or not.
func TestPut(t *testing.T) {
	w := world.New()
	for _, b := range []string{"abc", "", "a longer one", "x", "\x00\xff\x00", ""} {
		wantErr(t, "Put", w.Put("a", []byte(b)), api.OK)
		wantBytes(t, w, "a", b)
		wantNames(t, w, "a")
	}
	wantErr(t, "Put of nil", w.Put("b", nil), api.OK)
	wantBytes(t, w, "b", "")
	wantErr(t, "Put of another", w.Put("c", []byte("1")), api.OK)
	wantBytes(t, w, "a", "")
	wantBytes(t, w, "c", "1")
	wantNames(t, w, "a", "b", "c")
}

// P24.3: PutNew leaves what is there, be it empty; and puts anew what was deleted.
func TestPutNew(t *testing.T) {
	for _, b := range []string{"", "abc"} {
		w := world.New()
		wantErr(t, "PutNew", w.PutNew("a", []byte(b)), api.OK)
		wantErr(t, "PutNew of other bytes", w.PutNew("a", []byte("other")), api.ErrThere)
		wantErr(t, "PutNew of the same bytes", w.PutNew("a", []byte(b)), api.ErrThere)
		wantErr(t, "PutNew of nothing", w.PutNew("a", nil), api.ErrThere)
		wantBytes(t, w, "a", b)
		wantErr(t, "PutNew of a longer name", w.PutNew("a/", nil), api.OK)
		wantErr(t, "Delete", w.Delete("a"), api.OK)
		wantErr(t, "PutNew of what was deleted", w.PutNew("a", []byte("2")), api.OK)
		wantErr(t, "Put", w.Put("a", []byte("3")), api.OK)
		wantErr(t, "PutNew of what was put", w.PutNew("a", []byte("4")), api.ErrThere)
		wantBytes(t, w, "a", "3")
	}
}

// P24.2, P24.3: an object has at most MaxObject bytes.
func TestLargest(t *testing.T) {
	largest := strings.Repeat("0123456789abcdef", api.MaxObject/16)
	w := with(t, "old")
	for _, size := range []int{api.MaxObject + 1, api.MaxObject + 2, 2 * api.MaxObject} {
		b := make([]byte, size)
		wantErr(t, "Put of too much", w.Put("old", b), api.ErrArg)
		wantErr(t, "PutNew of too much", w.PutNew("new", b), api.ErrArg)
		wantErr(t, "PutNew of too much, of one that is there", w.PutNew("old", b), api.ErrArg)
	}
	wantNames(t, w, "old")
	wantBytes(t, w, "old", "old")
	wantErr(t, "Put", w.Put("old", []byte(largest)), api.OK)
	wantErr(t, "PutNew", w.PutNew("new", []byte(largest)), api.OK)
	wantBytes(t, w, "old", largest)
	wantBytes(t, w, "new", largest)
	if got, err := w.Get("new", api.MaxObject-3, 3); string(got) != "def" || err != api.OK {
		t.Errorf("the last three are %q, error %d", got, err)
	}
}

// P24.3: Get answers each part of an object, and ErrArg of what is beyond it.
func TestGet(t *testing.T) {
	for _, text := range []string{"", "a", "abcdefg"} {
		w := world.New()
		w.Put("o", []byte(text))
		numbers := []int{0, 1, 2, 3, 4, 5, 6, 7, 8, 9, 1 << 20, 1 << 32, math.MaxInt - 1, math.MaxInt}
		for _, off := range numbers {
			for _, n := range append(numbers, -1) {
				want, fault := "", api.ErrArg
				switch {
				case off <= len(text) && n == -1:
					want, fault = text[off:], api.OK
				case off <= len(text) && n <= len(text)-off:
					want, fault = text[off:off+n], api.OK
				}
				if got, err := w.Get("o", off, n); string(got) != want || err != fault {
					t.Errorf("Get(%d, %d) of %q is %q and error %d, want %q and %d", off, n, text, got, err, want, fault)
				}
				wantErr(t, "Get of none", get(t, "none", off, n).ask(w), api.ErrNone)
			}
		}
	}
}

// P24.3: List answers the names that begin so, rising byte by byte, whatever the prefix is.
func TestList(t *testing.T) {
	names := []string{"v/10", "o/1", "o/2", "v/9", "o", "a.b", "a/b", "a0", "aa", "a", "zz", "o/10", ".", "/", "9"}
	for range 5 { // a map is gone through in another order each time
		w := with(t, names...)
		for prefix, want := range map[string][]string{
			"":        {".", "/", "9", "a", "a.b", "a/b", "a0", "aa", "o", "o/1", "o/10", "o/2", "v/10", "v/9", "zz"},
			"a":       {"a", "a.b", "a/b", "a0", "aa"},
			"o":       {"o", "o/1", "o/10", "o/2"},
			"o/":      {"o/1", "o/10", "o/2"},
			"o/1":     {"o/1", "o/10"},
			"v/":      {"v/10", "v/9"},
			"zz":      {"zz"},
			".":       {"."},
			"zzz":     nil,
			"/1":      nil,
			"b":       nil,
			"O":       nil,
			"%":       nil,
			"\xff":    nil,
			"ä b":     nil,
			"o/1\x00": nil,

			strings.Repeat("a", 25):    nil,
			strings.Repeat("o", 1<<16): nil,
		} {
			if got, err := w.List(prefix); !slices.Equal(got, want) || err != api.OK {
				t.Errorf("List(%q) is %q and error %d, want %q", prefix, got, err, want)
			}
		}
		wantNames(t, w, ".", "/", "9", "a", "a.b", "a/b", "a0", "aa", "o", "o/1", "o/10", "o/2", "v/10", "v/9", "zz")
	}
	if got, err := world.New().List(""); len(got) != 0 || err != api.OK {
		t.Errorf("List of nothing is %q and error %d", got, err)
	}
}

// P24.3: there is none of a name that was deleted, and of another one all stays.
func TestDelete(t *testing.T) {
	w := with(t, "a", "b", "a/b")
	for range 2 {
		wantErr(t, "Delete", w.Delete("a"), api.OK)
		wantNone(t, w, "a")
		wantNames(t, w, "a/b", "b")
	}
	wantErr(t, "Delete of none", w.Delete("c"), api.OK)
	wantBytes(t, w, "b", "b")
	wantBytes(t, w, "a/b", "a/b")
	wantErr(t, "Put", w.Put("a", []byte("anew")), api.OK)
	wantBytes(t, w, "a", "anew")
	for _, name := range []string{"a", "b", "a/b"} {
		wantErr(t, "Delete", w.Delete(name), api.OK)
	}
	wantNames(t, w)
}

// P24.3: Names and Size are told without a request, also without power, and whatever fails.
func TestToldWithoutRequest(t *testing.T) {
	w := with(t, "b", "abc")
	w.Put("none", nil)
	w.Faults([]int{api.FtLost})
	w.Fuse(0)
	for range 3 {
		wantNames(t, w, "abc", "b", "none")
		for name, want := range map[string]int{"b": 1, "abc": 3, "none": 0} {
			if size, there := w.Size(name); size != want || !there {
				t.Errorf("Size(%q) is %d, %v", name, size, there)
			}
		}
		for _, name := range append(wrongNames(), "a", "ab", "abcd", "c") {
			if size, there := w.Size(name); size != 0 || there {
				t.Errorf("Size(%q) is %d, %v", name, size, there)
			}
		}
	}
	wantCounts(t, "Names and Size", w, 3, 3)
}

// P24.3: what is put, and what is answered, shares nothing with what is kept.
func TestSharesNothing(t *testing.T) {
	for _, ask := range []func(w *world.World, b []byte) api.Errno{
		func(w *world.World, b []byte) api.Errno { return w.Put("o", b) },
		func(w *world.World, b []byte) api.Errno { return w.PutNew("o", b) },
	} {
		w, b := world.New(), append(make([]byte, 0, 100), "abcdef"...)
		wantErr(t, "a put", ask(w, b), api.OK)
		b[0], b[5] = 'x', 'y'
		wantBytes(t, w, "o", "abcdef")
		if string(b) != "xbcdey" || !bytes.Equal(b[6:100], make([]byte, 94)) {
			t.Errorf("what was put is %q", b[:100])
		}
		for off := range 6 {
			for _, n := range []int{-1, 1} {
				got, _ := w.Get("o", off, n)
				got[0] = 'z'
				_ = append(got, "zzzzzz"...)
				wantBytes(t, w, "o", "abcdef")
			}
		}
		got, _ := w.Get("o", 3, 0)
		_ = append(got, "zzzzzz"...)
		wantBytes(t, w, "o", "abcdef")
		first, _ := w.Get("o", 0, -1)
		w.Put("o", []byte("ABCDEF"))
		if string(first) != "abcdef" {
			t.Errorf("what was answered is %q now", first)
		}
	}
	w := with(t, "a", "b", "c")
	names, listed := w.Names(), must(w.List(""))
	names[0], listed[1] = "x", "y"
	_, _ = append(names[:1], "z"), append(listed[:1], "z")
	wantNames(t, w, "a", "b", "c")
	if got := must(w.List("")); !slices.Equal(got, []string{"a", "b", "c"}) {
		t.Errorf("List is %q", got)
	}
}

// must is a list that is answered without an error.
func must(l []string, err api.Errno) []string {
	if err != api.OK {
		return []string{"an error"}
	}
	return l
}

// source draws numbers by a rule.
type source uint32

// below is the next number, below n.
func (d *source) below(n int) int {
	*d = *d*1664525 + 1013904223
	return int(*d>>8) % n
}

// object is a name, and its bytes.
type object struct {
	name string
	b    string
}

// rule is a world as the chapter says it: its objects stand as they were put first.
type rule struct {
	objects      []object
	faults       []int
	left         int // steps; below 0 without end
	steps, asked int
}

// at is the place of the object of that name; -1: there is none.
func (r *rule) at(name string) int {
	return slices.IndexFunc(r.objects, func(o object) bool { return o.name == name })
}

// set gives the object of that name these bytes.
func (r *rule) set(name, b string) {
	if i := r.at(name); i >= 0 {
		r.objects = slices.Delete(r.objects, i, i+1)
	}
	r.objects = append(r.objects, object{name, b})
}

// names is the names that begin so, rising.
func (r *rule) names(prefix string) []string {
	var l []string
	for _, o := range r.objects {
		if len(o.name) >= len(prefix) && o.name[:len(prefix)] == prefix {
			l = append(l, o.name)
		}
	}
	slices.Sort(l)
	return l
}

// step does a step.
func (r *rule) step() api.Errno {
	if r.left == 0 {
		return api.ErrDead
	}
	r.left--
	r.steps++
	return api.OK
}

// begin is whether a request is done, and what it is answered, unless that is OK.
func (r *rule) begin() (bool, api.Errno) {
	if err := r.step(); err != api.OK {
		return false, err
	}
	r.asked++
	fault := 0
	if len(r.faults) > 0 {
		fault, r.faults = r.faults[0], r.faults[1:]
	}
	switch fault {
	case 1:
		return false, api.ErrAway
	case 2:
		return true, api.ErrAway
	}
	return true, api.OK
}

// put is what a put is answered; of one that may not put anew, if fresh.
func (r *rule) put(name, b string, fresh bool) api.Errno {
	done, err := r.begin()
	there := r.at(name) >= 0
	if done && !(fresh && there) {
		r.set(name, b)
	}
	if err == api.OK && fresh && there {
		return api.ErrThere
	}
	return err
}

// get is what a Get is answered whose arguments may be.
func (r *rule) get(name string, off, n int) (string, api.Errno) {
	_, err := r.begin()
	i := r.at(name)
	switch {
	case err != api.OK:
		return "", err
	case i < 0:
		return "", api.ErrNone
	}
	b := r.objects[i].b
	switch {
	case off > len(b), n > len(b)-off:
		return "", api.ErrArg
	case n == -1:
		return b[off:], api.OK
	}
	return b[off : off+n], api.OK
}

// remove is what a Delete is answered.
func (r *rule) remove(name string) api.Errno {
	done, err := r.begin()
	if i := r.at(name); done && i >= 0 {
		r.objects = slices.Delete(r.objects, i, i+1)
	}
	return err
}

// power draws faults, fuses and Ups.
func (d *source) power(w *world.World, r *rule) {
	switch d.below(6) {
	case 0, 1:
		l := make([]int, d.below(8))
		for i := range l {
			l[i] = d.below(5) - 1
		}
		w.Faults(l)
		r.faults = l
	case 2, 3:
		n := d.below(12) - 2
		w.Fuse(n)
		if r.left != 0 {
			r.left = n
		}
	default:
		w.Up()
		r.left = -1
	}
}

// ask draws a request or a step, and tells whether it is answered as the rule has it.
func (d *source) ask(w *world.World, r *rule) bool {
	name := []string{"a", "b", "ab", "a/b", "v/1", "v/2", "."}[d.below(7)]
	b := []string{"", "1", "22", "333", "\x00\xff"}[d.below(5)]
	switch d.below(6) {
	case 0:
		return w.Put(name, []byte(b)) == r.put(name, b, false)
	case 1:
		return w.PutNew(name, []byte(b)) == r.put(name, b, true)
	case 2:
		off, n := d.below(5), d.below(6)-1
		got, err := w.Get(name, off, n)
		want, fault := r.get(name, off, n)
		return string(got) == want && err == fault
	case 3:
		prefix := []string{"", "a", "ab", "v/", "?"}[d.below(5)]
		got, err := w.List(prefix)
		if _, fault := r.begin(); fault != api.OK {
			return len(got) == 0 && err == fault
		}
		return slices.Equal(got, r.names(prefix)) && err == api.OK
	case 4:
		return w.Delete(name) == r.remove(name)
	}
	return w.Step() == r.step()
}

// like is whether all that is told of a world without a request is as the rule has it.
func like(w *world.World, r *rule) bool {
	if w.Dead() != (r.left == 0) || w.Steps() != r.steps || w.Asked() != r.asked || !slices.Equal(w.Names(), r.names("")) {
		return false
	}
	for _, o := range r.objects {
		if size, there := w.Size(o.name); size != len(o.b) || !there {
			return false
		}
	}
	return true
}

// P24.1 to P24.4: whatever is drawn is answered as the chapter says it, and what is put stays.
func TestDrawn(t *testing.T) {
	d := source(1)
	objects, dead, asked := 0, 0, 0
	for round := range 2000 {
		w, r := world.New(), &rule{left: -1}
		for i := range 60 {
			if d.below(4) == 0 {
				d.power(w, r)
			}
			if !d.ask(w, r) || !like(w, r) {
				t.Fatalf("round %d, call %d: %q, %d steps, %d asked; want %+v", round, i, w.Names(), w.Steps(), w.Asked(), r)
			}
		}
		objects += len(r.objects)
		asked += r.asked
		if r.left == 0 {
			dead++
		}
		w.Up()
		w.Faults(nil)
		for _, o := range r.objects {
			wantBytes(t, w, o.name, o.b)
		}
	}
	if objects < 2000 || dead < 200 || asked < 40000 {
		t.Fatalf("%d objects, %d worlds that are dead, and %d requests are drawn", objects, dead, asked)
	}
}

// P24.4: what is put stays, whatever fails, until it is put anew, or deleted.
func TestStays(t *testing.T) {
	w := with(t, "kept", "anew", "gone")
	for _, r := range append(wrong(t), putNew("kept", "other"), put("a", "b"), remove("b"), get(t, "kept", 1, 1), get(t, "kept", 9, 9), list(t, "k")) {
		for _, fault := range []int{api.FtOk, api.FtLost, api.FtDone, 7} {
			w.Faults([]int{fault})
			r.ask(w)
			w.Fuse(1)
			r.ask(w)
			r.ask(w)
			w.Fuse(0)
			r.ask(w)
			w.Up()
			w.Faults([]int{api.FtLost, api.FtLost, api.FtLost})
			w.Put("kept", nil)
			w.Delete("kept")
			w.PutNew("kept", nil)
			w.Faults(nil)
			wantBytes(t, w, "kept", "kept")
		}
	}
	wantErr(t, "Put", w.Put("anew", []byte("2")), api.OK)
	wantErr(t, "Delete", w.Delete("gone"), api.OK)
	wantBytes(t, w, "kept", "kept")
	wantBytes(t, w, "anew", "2")
	wantNone(t, w, "gone")
}

// P24.1, P24.2: the same calls are answered the same, in whatever order a map is gone through.
func TestSameAgain(t *testing.T) {
	play := func() []string {
		w := world.New()
		var told []string
		for i := range 24 {
			w.Faults([]int{i % 4, (i + 1) % 3})
			told = append(told, string(rune('A'+w.Put("o/"+string(rune('a'+i)), nil))))
			told = append(told, must(w.List("o"))...)
			told = append(told, w.Names()...)
		}
		return told
	}
	first := play()
	for range 20 {
		if got := play(); !slices.Equal(got, first) {
			t.Fatalf("%q was %q", got, first)
		}
	}
}
