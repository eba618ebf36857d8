package digest_test

import (
	"crypto/sha256"
	"sync"
	"testing"

	"thole/digest"
)

func TestCallsCountsCrcAndShaAlone(t *testing.T) {
	e := digest.New()
	steps := []struct {
		what string
		do   func()
		want int
	}{
		{"New", func() {}, 0},
		{"Crc", func() { e.Crc([]byte("a")) }, 1},
		{"Crc of nil", func() { e.Crc(nil) }, 2},
		{"Sha", func() { e.Sha([]byte("a")) }, 3},
		{"Sha of nil", func() { e.Sha(nil) }, 4},
		{"Sha of many blocks", func() { e.Sha(make([]byte, 1000)) }, 5},
		{"Hash1", func() { e.Hash1(1) }, 5},
		{"Hash2", func() { e.Hash2(1, 2) }, 5},
		{"Hash3", func() { e.Hash3(1, 2, 3) }, 5},
		{"Name", func() { e.Name("a") }, 5},
		{"Calls", func() { e.Calls() }, 5},
	}
	for _, s := range steps {
		s.do()
		if got := e.Calls(); got != s.want {
			t.Errorf("Calls behind %s: %d, want %d", s.what, got, s.want)
		}
	}
}

func TestEnginesCountEachTheirOwn(t *testing.T) {
	a, b := digest.New(), digest.New()
	if a == b {
		t.Fatal("New answered the same Engine twice")
	}
	a.Crc(nil)
	a.Sha(nil)
	b.Sha(nil)
	if a.Calls() != 2 || b.Calls() != 1 {
		t.Errorf("Calls: %d and %d, want 2 and 1", a.Calls(), b.Calls())
	}
}

func TestOneEngineOfSeveralGoroutines(t *testing.T) {
	const workers, turns = 16, 2000
	text, block := []byte("123456789"), bytesOf(64)
	sum := sha256.Sum256(block)
	e := digest.New()
	wrong := make([]int, workers)
	start := make(chan int)
	var all sync.WaitGroup
	for w := range workers {
		all.Go(func() {
			<-start
			for range turns {
				if e.Crc(text) != 0xe3069283 || e.Sha(block) != sum || e.Hash2(1, 2) != 0xb78dee9c || e.Name("a") != 0x29eec818 {
					wrong[w]++
				}
			}
		})
	}
	close(start)
	all.Wait()
	for w, n := range wrong {
		if n > 0 {
			t.Errorf("worker %d: %d turns with a wrong answer", w, n)
		}
	}
	if got, want := e.Calls(), 2*workers*turns; got != want {
		t.Errorf("Calls: %d, want %d", got, want)
	}
}

// The first Crc of an Engine makes its table: none of those who call meanwhile may see a part of it.
func TestFirstCrcOfSeveralGoroutines(t *testing.T) {
	const workers = 8
	text := []byte("123456789")
	for range 300 {
		e := digest.New()
		var got [workers]uint32
		start := make(chan int)
		var all sync.WaitGroup
		for w := range workers {
			all.Go(func() {
				<-start
				got[w] = e.Crc(text)
			})
		}
		close(start)
		all.Wait()
		for w := range got {
			if got[w] != 0xe3069283 {
				t.Fatalf("worker %d: %#x", w, got[w])
			}
		}
	}
}

func TestAnEngineThatNoCallMade(t *testing.T) {
	var zero digest.Engine
	for what, e := range map[string]*digest.Engine{"nil": nil, "zero": &zero} {
		for _, b := range [][]byte{nil, {}, []byte("123456789")} {
			if got := e.Crc(b); got != 0 {
				t.Errorf("%s: Crc(%q): %#x", what, b, got)
			}
			if got := e.Sha(b); got != [32]byte{} {
				t.Errorf("%s: Sha(%q): %x", what, b, got)
			}
		}
		for _, n := range []uint32{0, 1, 1<<32 - 1} {
			if e.Hash1(n) != 0 || e.Hash2(n, 2) != 0 || e.Hash3(n, 2, 3) != 0 {
				t.Errorf("%s: hashes of %d: %#x, %#x, %#x", what, n, e.Hash1(n), e.Hash2(n, 2), e.Hash3(n, 2, 3))
			}
		}
		for _, s := range []string{"", "a", "object-0123456789"} {
			if got := e.Name(s); got != 0 {
				t.Errorf("%s: Name(%q): %#x", what, s, got)
			}
		}
		if got := e.Calls(); got != 0 {
			t.Errorf("%s: Calls: %d", what, got)
		}
	}
}

// What is handed in stays as it is, the room behind its end too, and what a caller changes afterwards changes no answer.
func TestWhatIsHandedInStays(t *testing.T) {
	e := digest.New()
	for _, n := range []int{0, 9, 55, 56, 63, 64, 65, 200} {
		room := bytesOf(n + 100)
		before := string(room)
		b := room[:n]
		crc, sum := e.Crc(b), e.Sha(b)
		if string(room) != before {
			t.Errorf("%d bytes: the caller's bytes were changed", n)
		}
		if e.Crc(room[:n:n]) != crc || e.Sha(room[:n:n]) != sum {
			t.Errorf("%d bytes: an answer hangs on the room behind them", n)
		}
		clear(room)
		if e.Crc([]byte(before[:n])) != crc || e.Sha([]byte(before[:n])) != sum {
			t.Errorf("%d bytes: an answer hangs on what was asked before", n)
		}
	}
}

func TestEachEngineAnswersAlike(t *testing.T) {
	a, b := digest.New(), digest.New()
	for i := range 50 {
		a.Crc(bytesOf(i))
		a.Sha(bytesOf(i))
	}
	text := bytesOf(77)
	if a.Crc(text) != b.Crc(text) || a.Sha(text) != b.Sha(text) {
		t.Error("a digest hangs on the calls ahead of it")
	}
	if a.Hash3(1, 2, 3) != b.Hash3(1, 2, 3) || a.Name("a") != b.Name("a") {
		t.Error("a hash hangs on the calls ahead of it")
	}
}
