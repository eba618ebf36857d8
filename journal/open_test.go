package journal_test

import (
	"strconv"
	"strings"
	"testing"

	"thole/api"
	"thole/disk"
	"thole/journal"
)

func TestOpenOfAnEmptyDisk(t *testing.T) {
	d := diskOf(t, 100, "", "")
	j := opened(t, d)
	expect(t, j, "Open", face{})
	add(t, j, "a")
	expect(t, j, "Append", face{0, 0, 9, 1, 0, row(0, "a")})
	if got := bytesOf(t, d); got != framed("a") {
		t.Errorf("the disk has %q, want %q", got, framed("a"))
	}
}

// A case of Open: what stands on the disk, and how many of its bytes are frames.
type openCase struct {
	what    string
	bytes   string
	records []string
}

func openCases() []openCase {
	good := framed("a", "bc")
	turned := []byte(framed("bad"))
	turned[head] ^= 0x10
	check := []byte(framed("bad"))
	check[4] ^= 1
	tooBig := "\x01\x00\x08\x00\x00\x00\x00\x00"
	return []openCase{
		{"frames alone", good, []string{"a", "bc"}},
		{"a record of no bytes", framed(""), []string{""}},
		{"noughts, eight for a frame", strings.Repeat("\x00", 27), []string{"", "", ""}},
		{"records of no bytes between others", framed("", "a", "", ""), []string{"", "a", "", ""}},
		{"a byte behind the frames", good + "\x00", []string{"a", "bc"}},
		{"seven bytes behind the frames", good + "\x00\x00\x00\x00\x00\x00\x00", []string{"a", "bc"}},
		{"seven bytes alone", "\x00\x00\x00\x00\x00\x00\x00", nil},
		{"a head alone", framed("d")[:head], nil},
		{"a head behind the frames", good + framed("d")[:head], []string{"a", "bc"}},
		{"a frame that ends just at End", framed("abcdefgh"), []string{"abcdefgh"}},
		{"one byte short of a frame", framed("abcdefgh")[:15], nil},
		{"one byte short of the second frame", framed("a", "bc")[:18], []string{"a"}},
		{"another byte in the content", good + string(turned), []string{"a", "bc"}},
		{"another checksum", good + string(check), []string{"a", "bc"}},
		{"a good frame behind a bad one", "x" + good, nil},
		{"a good frame behind one with another byte", framed("a") + string(turned) + framed("c"), []string{"a"}},
		{"a good frame behind one with another checksum", string(check) + good, nil},
		{"a good frame behind one that is short", framed("a") + framed("bc")[:9] + framed("d"), []string{"a"}},
		{"a count above MaxFrame", good + tooBig, []string{"a", "bc"}},
		{"a count above MaxFrame, and good frames behind", tooBig + good, nil},
		{"the greatest count", "\xff\xff\xff\xff\x00\x00\x00\x00" + good, nil},
	}
}

func TestOpenTakesFramesAndCutsTheRest(t *testing.T) {
	for _, c := range openCases() {
		good := framed(c.records...)
		torn := len(c.bytes) - len(good)
		for synced := range len(c.bytes) + 1 {
			d := diskOf(t, 200, c.bytes[:synced], c.bytes[synced:])
			j := opened(t, d)
			expect(t, j, c.what, face{0, min(synced, len(good)), len(good), len(c.records), torn, row(0, c.records...)})
			if got := bytesOf(t, d); got != good {
				t.Errorf("%s: the disk has %q, want %q", c.what, got, good)
			}
		}
	}
}

func TestWhatIsCutOffStaysAway(t *testing.T) {
	for _, c := range openCases() {
		d := diskOf(t, 200, c.bytes, "")
		add(t, opened(t, d), "new", "")
		d.Crash(200)
		all := append(append([]string(nil), c.records...), "new", "")
		end := len(framed(all...))
		expect(t, opened(t, d), c.what, face{0, end, end, len(all), 0, row(0, all...)})
	}
}

// Where Base is not 0, places go on from there; what is ahead of Base is no record any more.
func TestOpenOfADiskThatWasTrimmed(t *testing.T) {
	all := framed("a", "bc", "", "d")
	cases := []struct {
		what    string
		base    int
		records []string
	}{
		{"at the second record", 9, []string{"bc", "", "d"}},
		{"at the third record", 19, []string{"", "d"}},
		{"at the last record", 27, []string{"d"}},
		{"at End", 36, nil},
		{"in a record", 18, nil},
		{"in a head", 10, nil},
		{"in the last record", 35, nil},
	}
	for _, c := range cases {
		d := diskOf(t, 200, all, "")
		if e := d.Trim(c.base); e != api.OK {
			t.Fatal(e)
		}
		end := c.base + len(framed(c.records...))
		j := opened(t, d)
		expect(t, j, c.what, face{c.base, end, end, len(c.records), len(all) - end, row(c.base, c.records...)})
		add(t, j, "e")
		if at, b := lastOf(j); at != end || b != "e" {
			t.Errorf("%s: Append behind it: %d, %q", c.what, at, b)
		}
	}
}

func lastOf(j *journal.Journal) (int, string) {
	place, record := -1, ""
	for at, b := range j.Records() {
		place, record = at, string(b)
	}
	return place, record
}

// Open of frames that are not durable makes them no more so: nothing is cut, nothing is synced.
func TestOpenSyncsNothing(t *testing.T) {
	d := diskOf(t, 200, framed("a"), framed("bc", "d"))
	expect(t, opened(t, d), "Open", face{0, 9, 28, 3, 0, row(0, "a", "bc", "d")})
	d.Crash(0)
	expect(t, opened(t, d), "Open behind a crash", face{0, 9, 9, 1, 0, row(0, "a")})
}

func TestOpenOfTheGreatestRecords(t *testing.T) {
	r := dice(1)
	great := r.text(api.MaxFrame)
	all := framed(great, "a", great)
	d := diskOf(t, len(all)+20, all, framed(great)[:20])
	expect(t, opened(t, d), "Open", face{0, len(all), len(all), 3, 20, row(0, great, "a", great)})
	over := framed(great + "x")
	d = diskOf(t, len(over)+9, framed("a"), over)
	expect(t, opened(t, d), "one byte too many", face{0, 9, 9, 1, len(over), row(0, "a")})
}

// A frozen disk lets nothing go: none of its bytes is cut off, and none of them is told as torn.
func TestOpenOfAFrozenDisk(t *testing.T) {
	d := diskOf(t, 200, framed("a"), "")
	d.Arm(0)
	put(t, d, framed("bc")+"torn")
	was := bytesOf(t, d)
	for range 2 {
		j := opened(t, d)
		if records, n := toldBy(j); records != row(0, "a", "bc") || n != 2 || j.Torn() != 0 || j.Synced() != 9 || j.End() != 23 {
			t.Errorf("Open: %s, Torn %d, Synced %d, End %d", records, j.Torn(), j.Synced(), j.End())
		}
		if got := bytesOf(t, d); got != was {
			t.Errorf("the disk has %q, had %q", got, was)
		}
	}
	d.Crash(99)
	expect(t, opened(t, d), "Open behind the crash", face{0, 9, 9, 1, 0, row(0, "a")})
}

// byHand are the records that some bytes begin with, told without package wire.
func byHand(b string) []string {
	var records []string
	for len(b) >= head {
		n := int(b[0]) | int(b[1])<<8 | int(b[2])<<16 | int(b[3])<<24
		if n > api.MaxFrame || n > len(b)-head || framed(b[head : head+n])[:head] != b[:head] {
			break
		}
		records = append(records, b[head:head+n])
		b = b[head+n:]
	}
	return records
}

func TestOpenOfAnyBytes(t *testing.T) {
	r := dice(2)
	for n := range 2000 {
		var b string
		for range r.next(6) {
			b += framed(r.text(r.next(4)))
		}
		b += r.text(r.next(12))
		wrong := []byte(b)
		if len(b) > 0 && r.next(2) == 0 {
			wrong[r.next(len(b))] ^= 1 << r.next(8)
		}
		d := diskOf(t, 1+len(b), string(wrong), "")
		records := byHand(string(wrong))
		good := len(framed(records...))
		expect(t, opened(t, d), "row "+strconv.Itoa(n), face{0, good, good, len(records), len(b) - good, row(0, records...)})
	}
}

func TestOpenedTwiceItIsTheSame(t *testing.T) {
	for _, c := range openCases() {
		d := diskOf(t, 200, c.bytes[:len(c.bytes)/2], c.bytes[len(c.bytes)/2:])
		want := faceOf(t, opened(t, d))
		want.torn = 0
		was := bytesOf(t, d)
		for range 3 {
			expect(t, opened(t, d), c.what+", again", want)
			if got := bytesOf(t, d); got != was {
				t.Errorf("%s: the disk has %q, had %q", c.what, got, was)
			}
		}
	}
	j, d := made(t, 200, []string{"a", "bc", ""}, []string{"d", "e"})
	if e := j.Trim(9); e != api.OK {
		t.Fatal(e)
	}
	add(t, j, "f")
	expect(t, opened(t, d), "behind calls", faceOf(t, j))
}

func TestOpenOfADiskThatNoCallMade(t *testing.T) {
	for what, d := range map[string]*disk.Disk{"nil": nil, "a zero value": {}} {
		for range 2 {
			if j, e := journal.Open(d); j != nil || e != api.ErrMade {
				t.Errorf("%s: %v, %v, want nil, made", what, j, e)
			}
		}
	}
}
