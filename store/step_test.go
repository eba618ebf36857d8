package store_test

import (
	"strconv"
	"strings"
	"testing"

	"thole/api"
)

// agree applies a transaction to store and model, and holds them against each other.
func agree(t *testing.T, what string, steps ...api.Step) {
	t.Helper()
	s, d := some(t)
	m := modelOf(t, someSteps()...)
	want := m.apply(tx(steps...))
	if want != api.OK {
		refuse(t, what, s, d, want, func() api.Errno { return s.Apply(tx(steps...)) })
		return
	}
	if e := s.Apply(tx(steps...)); e != api.OK {
		t.Errorf("%s: %v", what, e)
	}
	expect(t, what, s, m)
	expect(t, what+", opened again", opened(t, d), m)
}

// someSteps are those by which some makes its store.
func someSteps() []api.Step {
	return []api.Step{
		mk(one), mk(two),
		write(one, "a", 2, "xy"), attr(one, "a", "k", "v"), set(one, "a", "o", "w"), set(one, "a", "p", ""),
		touch(one, "b"),
		zero(two, "a", 3, 4), attr(two, "a", "\x00", ""),
	}
}

func TestTheExamples(t *testing.T) {
	s, d := made(t, 1000, mk(one), write(one, "a", 2, "xy"))
	if n, e := s.Size(one, "a"); n != 4 || e != api.OK {
		t.Errorf("Size: %d, %v", n, e)
	}
	if b, e := s.Read(one, "a", 0, 9); string(b) != "\x00\x00xy" || e != api.OK {
		t.Errorf("Read: %q, %v", b, e)
	}
	for _, x := range []struct {
		what string
		t    api.Tx
		want api.Errno
	}{
		{"Remove b", tx(rm(one, "b")), api.ErrNone},
		{"Write above MaxObject", tx(write(one, "a", 4095, "xy")), api.ErrTooBig},
		{"Make again", tx(touch(one, "c"), mk(one)), api.ErrExists},
	} {
		refuse(t, x.what, s, d, x.want, func() api.Errno { return s.Apply(x.t) })
	}
	if s.Has(one, "c") {
		t.Error("there is a c")
	}
	s.Flip(one, "a", 2, 0)
	if fits, e := s.Fits(one, "a"); fits || e != api.OK {
		t.Errorf("Fits: %v, %v", fits, e)
	}
}

// What each kind of step does, told by hand.
func TestWhatEachStepDoes(t *testing.T) {
	const ahead = "1.0\n"
	for _, x := range []struct {
		what  string
		steps []api.Step
		want  string
	}{
		{"make", nil, ""},
		{"make and drop", []api.Step{write(one, "a", 0, "x"), drop(one), mk(one)}, ""},
		{"touch", []api.Step{touch(one, "a"), touch(one, "a")}, `  a "" true {} {}`},
		{"touch of what is there", []api.Step{write(one, "a", 0, "x"), touch(one, "a")}, `  a "x" true {} {}`},
		{"write", []api.Step{write(one, "a", 1, "xy")}, `  a "\x00xy" true {} {}`},
		{"write of no bytes", []api.Step{write(one, "a", 9, "")}, `  a "" true {} {}`},
		{"write over", []api.Step{write(one, "a", 0, "abcd"), write(one, "a", 1, "XY")}, `  a "aXYd" true {} {}`},
		{"zero", []api.Step{write(one, "a", 0, "abc"), zero(one, "a", 1, 1)}, `  a "a\x00c" true {} {}`},
		{"zero behind the end", []api.Step{zero(one, "a", 1, 2)}, `  a "\x00\x00\x00" true {} {}`},
		{"zero of no bytes behind the end", []api.Step{zero(one, "a", 5, 0)}, `  a "" true {} {}`},
		{"cut", []api.Step{write(one, "a", 0, "abc"), cut(one, "a", 1)}, `  a "a" true {} {}`},
		{"cut to more", []api.Step{touch(one, "a"), cut(one, "a", 2)}, `  a "\x00\x00" true {} {}`},
		{"cut, and what was cut does not come back", []api.Step{write(one, "a", 0, "abc"), cut(one, "a", 1), cut(one, "a", 3)}, `  a "a\x00\x00" true {} {}`},
		{"remove", []api.Step{touch(one, "a"), rm(one, "a")}, ""},
		{"remove lets all go", []api.Step{write(one, "a", 0, "x"), attr(one, "a", "k", "v"), set(one, "a", "o", "w"), rm(one, "a"), touch(one, "a")}, `  a "" true {} {}`},
		{"attr", []api.Step{attr(one, "a", "k", "v"), attr(one, "a", "j", ""), attr(one, "a", "k", "w")}, `  a "" true {"j":"" "k":"w"} {}`},
		{"bare", []api.Step{attr(one, "a", "k", "v"), attr(one, "a", "j", "u"), bare(one, "a", "k")}, `  a "" true {"j":"u"} {}`},
		{"set", []api.Step{set(one, "a", "o", "v"), set(one, "a", "\xff", ""), set(one, "a", "o", "w")}, `  a "" true {} {"o":"w" "\xff":""}`},
		{"unset", []api.Step{set(one, "a", "o", "v"), set(one, "a", "p", "w"), unset(one, "a", "o")}, `  a "" true {} {"p":"w"}`},
		{"an attribute is no key of the omap", []api.Step{attr(one, "a", "k", "v"), set(one, "a", "k", "w"), unset(one, "a", "k")}, `  a "" true {"k":"v"} {}`},
		{"move", []api.Step{write(one, "a", 0, "x"), attr(one, "a", "k", "v"), set(one, "a", "o", "w"), move(one, "a", "c")}, `  c "x" true {"k":"v"} {"o":"w"}`},
	} {
		s, _ := made(t, 10000, append([]api.Step{mk(one)}, x.steps...)...)
		want := ahead
		if x.want != "" {
			want += x.want + "\n"
		}
		if _, got, _ := strings.Cut(faceOf(t, s), "\n"); got != want {
			t.Errorf("%s:\n%s, want\n%s", x.what, got, want)
		}
	}
}

// Each kind of step on collections, objects and keys that are there and that are not.
func TestEachStepOnWhatIsThereAndWhatIsNot(t *testing.T) {
	for _, pg := range []api.Pg{one, two, {Pool: 3, Seed: 3}} {
		agree(t, "make", mk(pg))
		agree(t, "drop", drop(pg))
		for _, name := range []string{"a", "b", "c"} {
			for _, key := range []string{"k", "o", "p", "\x00", "a", "b", "d"} {
				for i, x := range each(pg, name, key) {
					agree(t, strconv.Itoa(i)+" of "+name+" "+key, x)
				}
			}
		}
	}
}

// each is one step of each kind that has a name.
func each(pg api.Pg, name, key string) []api.Step {
	return []api.Step{
		touch(pg, name), write(pg, name, 3, "data"), zero(pg, name, 1, 2), cut(pg, name, 3), rm(pg, name),
		attr(pg, name, key, "data"), bare(pg, name, key), set(pg, name, key, "data"), unset(pg, name, key), move(pg, name, key),
	}
}

// What a step ahead did is there for the next one, and what it let go is not.
func TestStepsOneBehindTheOther(t *testing.T) {
	three := api.Pg{Pool: 0, Seed: 3}
	for what, steps := range map[string][]api.Step{
		"make and write":        {mk(three), write(three, "a", 0, "x"), cut(three, "a", 0)},
		"make twice":            {mk(three), mk(three)},
		"drop and write":        {drop(one), write(one, "a", 0, "x")},
		"drop and make":         {drop(one), mk(one), write(one, "b", 0, "x")},
		"drop, make and remove": {drop(one), mk(one), rm(one, "a")},
		"drop twice":            {drop(one), drop(one)},
		"touch and remove":      {touch(one, "c"), rm(one, "c")},
		"remove twice":          {rm(one, "a"), rm(one, "a")},
		"remove and move onto":  {rm(one, "b"), move(one, "a", "b")},
		"move and write":        {move(one, "a", "c"), write(one, "a", 0, "x"), write(one, "c", 0, "y")},
		"move and back":         {move(one, "a", "c"), move(one, "c", "a")},
		"move twice":            {move(one, "a", "c"), move(one, "a", "d")},
		"attr and bare":         {attr(one, "b", "k", "v"), bare(one, "b", "k")},
		"bare twice":            {bare(one, "a", "k"), bare(one, "a", "k")},
		"set and unset":         {set(one, "b", "k", "v"), unset(one, "b", "k")},
		"unset twice":           {unset(one, "a", "o"), unset(one, "a", "o")},
		"attr makes it":         {attr(one, "c", "k", "v"), cut(one, "c", 1)},
		"set makes it":          {set(one, "c", "k", "v"), cut(one, "c", 1)},
		"zero makes it":         {zero(one, "c", 0, 0), cut(one, "c", 1)},
		"write makes it":        {write(one, "c", 0, ""), cut(one, "c", 1)},
	} {
		agree(t, what, steps...)
	}
}

// P6.8: whatever the steps ahead did, a last one that has an error leaves no trace of them.
func TestALastStepThatHasAnError(t *testing.T) {
	three := api.Pg{Pool: 3, Seed: 3}
	wrong := []api.Step{{}, touch(one, ""), mk(one), rm(two, "none"), cut(one, "b", api.MaxObject+1)}
	ahead := [][]api.Step{
		{drop(one), mk(one), write(one, "b", 0, "new"), touch(one, "q")},
		{mk(three), write(three, "a", 0, "x"), attr(three, "a", "k", "v"), set(three, "a", "o", "w"), touch(one, "b")},
		{rm(one, "a"), write(one, "a", 1, "other"), attr(one, "a", "k", "other"), set(one, "a", "o", "other"), touch(one, "b")},
		{move(one, "a", "z"), write(one, "z", 0, "moved"), move(one, "b", "a"), touch(one, "b")},
		{write(one, "a", 3, "long"), zero(one, "a", 0, 3), cut(one, "a", 9), write(one, "b", 0, "x")},
		{attr(one, "a", "k", "new"), attr(one, "a", "l", "m"), bare(one, "a", "k"), attr(one, "a", "k", "newer")},
		{set(one, "a", "o", "new"), set(one, "a", "q", "m"), unset(one, "a", "o"), unset(one, "a", "p"), set(one, "a", "p", "newer")},
		{drop(two), drop(one), mk(one), touch(one, "b"), rm(one, "b"), touch(one, "b")},
	}
	for i, steps := range ahead {
		for n := 1; n <= len(steps); n++ {
			for _, x := range wrong {
				agree(t, strconv.Itoa(i)+", "+strconv.Itoa(n)+" steps ahead of kind "+strconv.Itoa(x.Kind), append(append([]api.Step(nil), steps[:n]...), x)...)
			}
		}
	}
}

// The digest is that of the bytes as a write, a hole or a cut last left them; no other step changes it.
func TestWhichStepsReckonTheDigest(t *testing.T) {
	for _, x := range []struct {
		what string
		step api.Step
		name string
		fits bool
	}{
		{"touch", touch(one, "a"), "a", false},
		{"write", write(one, "a", 0, "Z"), "a", true},
		{"write of no bytes", write(one, "a", 0, ""), "a", true},
		{"zero", zero(one, "a", 0, 1), "a", true},
		{"zero of no bytes", zero(one, "a", 0, 0), "a", true},
		{"cut", cut(one, "a", 3), "a", true},
		{"cut to its size", cut(one, "a", 4), "a", true},
		{"attr", attr(one, "a", "k", "u"), "a", false},
		{"bare", bare(one, "a", "k"), "a", false},
		{"set", set(one, "a", "o", "u"), "a", false},
		{"unset", unset(one, "a", "o"), "a", false},
		{"move", move(one, "a", "z"), "z", false},
	} {
		s, d := some(t)
		m := modelOf(t, someSteps()...)
		m.flip(one, "a", 3, 1)
		m.must(t, x.step)
		if e := s.Flip(one, "a", 3, 1); e != api.OK {
			t.Fatal(e)
		}
		apply(t, s, x.step)
		if fits, e := s.Fits(one, x.name); fits != x.fits || e != api.OK {
			t.Errorf("%s: Fits: %v, %v", x.what, fits, e)
		}
		expect(t, x.what, s, m)
		expect(t, x.what+", opened again", opened(t, d), m)
	}
}
