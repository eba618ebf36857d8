package journal_test

import (
	"testing"

	"thole/api"
	"thole/journal"
)

func TestReadOfEachPlace(t *testing.T) {
	records := []string{"a", "", "bcd", "", "e"}
	j, _ := made(t, 200, records[:2], records[2:])
	if e := j.Trim(9); e != api.OK {
		t.Fatal(e)
	}
	at := map[int]string{9: "", 17: "bcd", 28: "", 36: "e"}
	for place := -10; place < 60; place++ {
		want, there := at[place]
		b, e := j.Read(place)
		if there && (string(b) != want || e != api.OK) {
			t.Errorf("Read(%d): %q, %v, want %q", place, b, e, want)
		}
		if !there && (b != nil || e != api.ErrNone) {
			t.Errorf("Read(%d): %q, %v, want nothing, none", place, b, e)
		}
	}
	for _, place := range far {
		if b, e := j.Read(place); b != nil || e != api.ErrNone {
			t.Errorf("Read(%d): %q, %v", place, b, e)
		}
	}
	expect(t, j, "behind all Reads", face{9, 45, 45, 4, 0, row(9, records[1:]...)})
}

// A place is a record's where its frame begins: bytes in a record that look like a frame are none.
func TestAFrameInARecordIsNone(t *testing.T) {
	inner := framed("x", "")
	j, d := made(t, 200, []string{inner, "b"}, nil)
	want := face{0, 34, 34, 2, 0, row(0, inner, "b")}
	expect(t, j, "appended", want)
	for place := 1; place < head+len(inner); place++ {
		if _, e := j.Read(place); e != api.ErrNone {
			t.Errorf("Read(%d): %v", place, e)
		}
		if e := j.Trim(place); e != api.ErrNone {
			t.Errorf("Trim(%d): %v", place, e)
		}
	}
	expect(t, opened(t, d), "opened", want)
}

func TestReadOfAnEmptyJournal(t *testing.T) {
	j, _ := made(t, 200, nil, nil)
	for _, place := range append([]int{-1, 0, 1, 8}, far...) {
		if b, e := j.Read(place); b != nil || e != api.ErrNone {
			t.Errorf("Read(%d): %q, %v", place, b, e)
		}
	}
}

func TestReadOfAFrozenDisk(t *testing.T) {
	j, d := made(t, 200, []string{"a"}, nil)
	d.Arm(3)
	add(t, j, "bc", "d")
	for at, want := range map[int]string{0: "a", 9: "bc", 19: "d"} {
		if b, e := j.Read(at); string(b) != want || e != api.OK {
			t.Errorf("Read(%d): %q, %v, want %q", at, b, e, want)
		}
	}
}

// First, End and Count behind each call of a journal's life.
func TestFirstEndAndCountGoAlong(t *testing.T) {
	j, d := made(t, 40, nil, nil)
	trim := func(at int) func() { return func() { j.Trim(at) } }
	steps := []struct {
		what string
		do   func()
		want face
	}{
		{"Open", func() {}, face{}},
		{"Trim of nothing", trim(0), face{}},
		{"Append a", func() { add(t, j, "a") }, face{0, 0, 9, 1, 0, row(0, "a")}},
		{"Append of nothing", func() { add(t, j, "") }, face{0, 0, 17, 2, 0, row(0, "a", "")}},
		{"Sync", func() { j.Sync() }, face{0, 17, 17, 2, 0, row(0, "a", "")}},
		{"Append bc", func() { add(t, j, "bc") }, face{0, 17, 27, 3, 0, row(0, "a", "", "bc")}},
		{"an Append that is refused", func() { j.Append(make([]byte, 6)) }, face{0, 17, 27, 3, 0, row(0, "a", "", "bc")}},
		{"a Trim that is refused", trim(10), face{0, 17, 27, 3, 0, row(0, "a", "", "bc")}},
		{"Trim", trim(9), face{9, 27, 27, 2, 0, row(9, "", "bc")}},
		{"Trim of what is gone", trim(0), face{9, 27, 27, 2, 0, row(9, "", "bc")}},
		{"Append d", func() { add(t, j, "d") }, face{9, 27, 36, 3, 0, row(9, "", "bc", "d")}},
		{"Trim at the first", trim(9), face{9, 36, 36, 3, 0, row(9, "", "bc", "d")}},
		{"Trim at End", trim(36), face{36, 36, 36, 0, 0, ""}},
		{"Trim at End again", trim(36), face{36, 36, 36, 0, 0, ""}},
		{"Append e", func() { add(t, j, "e") }, face{36, 36, 45, 1, 0, row(36, "e")}},
		{"Crash and Open", func() { d.Crash(5); j = opened(t, d) }, face{36, 36, 36, 0, 5, ""}},
		{"Append f", func() { add(t, j, "f") }, face{36, 36, 45, 1, 5, row(36, "f")}},
		{"Wipe and Open", func() { d.Wipe(); j = opened(t, d) }, face{}},
	}
	for _, s := range steps {
		s.do()
		expect(t, j, s.what, s.want)
	}
}

func TestRecordsAreLeftEarlyAndGoneOverTwice(t *testing.T) {
	records := []string{"a", "", "bc", "d"}
	j, _ := made(t, 200, records[:1], records[1:])
	all := j.Records()
	for most := range len(records) {
		n, told0 := 0, ""
		for at, b := range all {
			if n == most {
				break
			}
			told0 += told(at, string(b))
			n++
		}
		if want := row(0, records[:most]...); told0 != want {
			t.Errorf("left behind %d: %s, want %s", most, told0, want)
		}
	}
	for range 2 {
		again := ""
		for at, b := range all {
			again += told(at, string(b))
		}
		if again != row(0, records...) {
			t.Errorf("gone over again: %s", again)
		}
	}
	expect(t, j, "behind it", face{0, 9, 36, 4, 0, row(0, records...)})
}

func TestRecordsAreNested(t *testing.T) {
	j, _ := made(t, 200, []string{"a", "b"}, []string{"c"})
	all := j.Records()
	got := ""
	for _, x := range all {
		for _, y := range all {
			for _, z := range j.Records() {
				got += string(x) + string(y) + string(z) + " "
			}
		}
	}
	want := "aaa aab aac aba abb abc aca acb acc baa bab bac bba bbb bbc bca bcb bcc caa cab cac cba cbb cbc cca ccb ccc "
	if got != want {
		t.Errorf("nested: %s", got)
	}
}

// Records are told as they were when the iterator was asked for, whatever is done behind that.
func TestRecordsAreThoseOfTheTimeOfAsking(t *testing.T) {
	records := []string{"a", "bc", "d"}
	for what, do := range map[string]func(j *journal.Journal){
		"Append":      func(j *journal.Journal) { j.Append([]byte("e")) },
		"Sync":        func(j *journal.Journal) { j.Sync() },
		"Trim":        func(j *journal.Journal) { j.Trim(9) },
		"Trim of all": func(j *journal.Journal) { j.Trim(28) },
		"Trim and Append": func(j *journal.Journal) {
			j.Trim(28)
			j.Append([]byte("xyz"))
			j.Append([]byte("vw"))
		},
	} {
		j, _ := made(t, 40, records[:1], records[1:])
		asked := j.Records()
		got := ""
		for at, b := range asked {
			got += told(at, string(b))
			do(j)
		}
		for at, b := range asked {
			got += told(at, string(b))
		}
		if want := row(0, records...) + row(0, records...); got != want {
			t.Errorf("%s: %s, want %s", what, got, want)
		}
	}
}

func TestRecordsOutliveTheDisk(t *testing.T) {
	j, d := made(t, 40, []string{"a"}, []string{"bc"})
	asked := j.Records()
	none := opened(t, diskOf(t, 40, "", "")).Records()
	d.Flip(8, 0)
	d.Crash(0)
	d.Wipe()
	got := ""
	for at, b := range asked {
		got += told(at, string(b))
	}
	if got != row(0, "a", "bc") {
		t.Errorf("behind Wipe: %s", got)
	}
	for at, b := range none {
		t.Errorf("of an empty one: %d, %q", at, b)
	}
}
