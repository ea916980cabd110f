package wal_test

import (
	"bytes"
	"encoding/binary"
	"math"
	"math/rand"
	"slices"
	"strings"
	"testing"

	"outlaw/api"
	"outlaw/disk"
	"outlaw/wal"
)

func made(t *testing.T, sectors int) *disk.Disk {
	t.Helper()
	d, e := disk.New(sectors)
	if e != api.OK {
		t.Fatal(e)
	}
	return d
}

func opened(t *testing.T, d *disk.Disk) *wal.Log {
	t.Helper()
	l, e := wal.Open(d)
	if e != api.OK {
		t.Fatal(e)
	}
	return l
}

func mustOK(t *testing.T, e api.Errno) {
	t.Helper()
	if e != api.OK {
		t.Fatal(e)
	}
}

// text is some text of that length.
func text(n int) string { return strings.Repeat("record-", n/7+1)[:n] }

// sector is one with index i, as the document describes it.
func sector(i uint64, part string, last byte) string {
	b := binary.BigEndian.AppendUint64(nil, i+1)
	b = append(b, last)
	b = binary.BigEndian.AppendUint16(b, uint16(len(part)))
	b = append(b, part...)
	b = append(b, make([]byte, 504-len(b))...)
	return string(binary.BigEndian.AppendUint64(b, i+1))
}

func TestP20_1Need(t *testing.T) {
	for n, want := range map[int]int{0: 1, 1: 1, 492: 1, 493: 1, 494: 2, 986: 2, 987: 3, 4096: 9, 4097: 9, 4400: 9, 4401: 0, -1: 0, math.MaxInt: 0, math.MinInt: 0} {
		if got := wal.Need(n); got != want {
			t.Errorf("Need(%d) = %d", n, got)
		}
	}
}

func TestP20_1Frame(t *testing.T) {
	for _, at := range []int{0, 1, 255, 256, 1023, math.MaxInt} {
		for _, n := range []int{0, 1, 255, 256, 492, 493, 494, 986, 987, 4400} {
			rec := text(n)
			var want []string
			for i, rest := 0, rec; i == 0 || rest != ""; i++ {
				part := rest[:min(493, len(rest))]
				rest = rest[len(part):]
				last := byte(0)
				if rest == "" {
					last = 1
				}
				want = append(want, sector(uint64(at)+uint64(i), part, last))
			}
			if got := wal.Frame(at, rec); !slices.Equal(got, want) || len(got) != wal.Need(n) {
				t.Errorf("Frame(%d, %d bytes): %d sectors", at, n, len(got))
			}
		}
	}
	for _, at := range []int{-1, math.MinInt} {
		if got := wal.Frame(at, "a"); len(got) != 0 {
			t.Errorf("Frame(%d)", at)
		}
	}
	if len(wal.Frame(0, text(4401))) != 0 || len(wal.Frame(-1, text(4401))) != 0 {
		t.Error("a record that is too long")
	}
}

func TestP20_1Scan(t *testing.T) {
	full := text(493)
	for i, x := range []struct {
		image string
		recs  []string
		end   int
	}{
		{"", nil, 0}, {sector(0, "a", 1), []string{"a"}, 1}, {sector(0, "", 1) + sector(1, "b", 1), []string{"", "b"}, 2}, {sector(0, full, 0) + sector(1, "b", 1), []string{full + "b"}, 2}, {sector(0, full, 0), nil, 0},
		{sector(0, "a", 1) + sector(1, full, 0), []string{"a"}, 1}, {sector(0, full, 1), []string{full}, 1}, {sector(0, full, 0) + sector(1, "", 1), []string{full}, 2}, {sector(1, "a", 1), nil, 0}, {sector(0, "a", 1) + sector(2, "b", 1), []string{"a"}, 1},
		{sector(0, "a", 1) + sector(0, "b", 1), []string{"a"}, 1}, {sector(0, "a", 2), nil, 0}, {sector(0, "a", 0), nil, 0}, {sector(0, full[1:], 0) + sector(1, "b", 1), nil, 0}, {sector(0, full, 2) + sector(1, "b", 1), nil, 0},
		{sector(0, "a", 1) + strings.Repeat("\x00", 512) + sector(2, "b", 1), []string{"a"}, 1}, {sector(0, "a", 1)[:511], nil, 0}, {sector(0, "a", 1) + sector(1, "b", 1)[:511], []string{"a"}, 1}, {sector(0, "a", 1) + "xyz", []string{"a"}, 1},
		{sector(0, "a\x00", 1), []string{"a\x00"}, 1}, {sector(0, full, 0) + strings.Repeat("\x00", 512) + sector(2, "b", 1), nil, 0},
	} {
		recs, end := wal.Scan([]byte(x.image))
		if !slices.Equal(recs, x.recs) || end != x.end {
			t.Errorf("%d: %.20q, %d", i, recs, end)
		}
	}
	long, image := "", ""
	for i := range 20 {
		image += sector(uint64(i), full, map[bool]byte{true: 1}[i == 19])
		long += full
	}
	if recs, end := wal.Scan([]byte(image)); len(recs) != 1 || recs[0] != long || end != 20 {
		t.Error("a record of whatever length is found")
	}
	big := ""
	for i := range 1024 {
		big += sector(uint64(i), "", 1)
	}
	if recs, end := wal.Scan([]byte(big)); len(recs) != 1024 || end != 1024 {
		t.Error(len(recs), end)
	}
}

// Each byte of a sector matters, unless it is of the record.
func TestP20_1ScanEachByte(t *testing.T) {
	for _, x := range []struct {
		part string
		last byte
	}{{"ab", 1}, {"", 1}, {text(493), 1}, {text(493), 0}} {
		good := sector(0, x.part, x.last)
		end := sector(1, "e", 1)
		for i := range 512 {
			for _, c := range []byte{0, 1, 2, 255} {
				b := []byte(good)
				if b[i] == c {
					continue
				}
				b[i] = c
				recs, _ := wal.Scan([]byte(string(b) + end))
				ofRecord := i >= 11 && i < 11+len(x.part)
				n := int(b[9])<<8 + int(b[10])
				more := (i == 9 || i == 10) && x.last == 1 && n > len(x.part) && n <= 493
				turned := i == 8 && c < 2 && len(x.part) == 493
				if (len(recs) > 0) != (ofRecord || more || turned) {
					t.Fatalf("a sector with %d bytes, byte %d is %d: %.10q", len(x.part), i, c, recs)
				}
			}
		}
	}
}

// A count may say that a record has more bytes than there is room for.
func TestP20_1ScanCounts(t *testing.T) {
	for _, last := range []byte{0, 1} {
		for n := range 0x10000 {
			if n > 600 && n%97 > 0 && n < 0xff00 {
				continue
			}
			b := []byte(sector(0, text(493), last) + sector(1, "e", 1))
			b[9], b[10] = byte(n>>8), byte(n)
			recs, _ := wal.Scan(b)
			if want := n == 493; (len(recs) > 0) != want {
				t.Errorf("a count of %d: %.10q", n, recs)
			}
		}
	}
}

func TestP20_2Invalid(t *testing.T) {
	for i, l := range []*wal.Log{nil, {}} {
		if l.Append("b") != api.ErrNil || l.Append(text(5000)) != api.ErrNil || l.Sync() != api.ErrNil || len(l.Records()) != 0 || l.Synced() != 0 || l.End() != 0 || l.Left() != 0 {
			t.Errorf("%d: a log that Open did not return does something", i)
		}
	}
	for i, d := range []*disk.Disk{nil, {}} {
		if l, e := wal.Open(d); l != nil || e != api.ErrNil {
			t.Errorf("%d: Open without a disk: %v", i, e)
		}
	}
}

func TestP20_2Open(t *testing.T) {
	image := []byte(sector(0, "a", 1) + sector(1, text(493), 0) + strings.Repeat("\x00", 512) + sector(3, "b", 1) + strings.Repeat("\x00", 511) + "x")
	d, _ := disk.Of(image)
	l := opened(t, d)
	if !slices.Equal(l.Records(), []string{"a"}) || l.End() != 1 || l.Left() != 4 || l.Synced() != 1 {
		t.Error(l.Records(), l.End(), l.Left(), l.Synced())
	}
	want := append([]byte(sector(0, "a", 1)), make([]byte, 4*512)...)
	if !bytes.Equal(d.Image(), want) || !bytes.Equal(d.Durable(), want) || d.Pending() != 0 {
		t.Error("what comes behind the end is zero, and synced")
	}
	x, _ := disk.Of(bytes.Repeat([]byte("x"), 1024))
	if l := opened(t, x); l.End() != 0 || !bytes.Equal(x.Durable(), make([]byte, 1024)) {
		t.Error("sectors without a zero byte")
	}
	p := made(t, 2)
	p.Write(0, []byte(sector(0, "pending", 1)))
	if l := opened(t, p); !slices.Equal(l.Records(), []string{"pending"}) || p.Pending() != 0 || !bytes.Equal(p.Durable(), p.Image()) {
		t.Error("what is read counts, and is synced")
	}
	f, _ := disk.Of([]byte(sector(0, "full", 1)))
	if l := opened(t, f); l.Left() != 0 || l.End() != 1 || l.Append("") != api.ErrFull {
		t.Error("a log without room")
	}
}

func TestP20_2Append(t *testing.T) {
	d := made(t, 12)
	l := opened(t, d)
	var recs []string
	for i, x := range []struct {
		n    int
		want api.Errno
		end  int
	}{{4401, api.ErrLong, 0}, {0, 0, 1}, {493, 0, 2}, {494, 0, 4}, {4400, api.ErrFull, 4}, {3945, api.ErrFull, 4}, {5000, api.ErrLong, 4}, {3944, 0, 12}, {0, api.ErrFull, 12}, {4401, api.ErrLong, 12}} {
		before, image := d.Pending(), d.Image()
		rec := text(x.n)
		if e := l.Append(rec); e != x.want {
			t.Errorf("%d: %v", i, e)
		}
		if x.want == api.OK {
			recs = append(recs, rec)
			if d.Pending() != before+wal.Need(x.n) {
				t.Errorf("%d: the sectors of a record are pending", i)
			}
		} else if d.Pending() != before || !bytes.Equal(d.Image(), image) {
			t.Errorf("%d: an error writes something", i)
		}
		if l.End() != x.end || l.Left() != 12-x.end || !slices.Equal(l.Records(), recs) || l.Synced() != 0 {
			t.Errorf("%d: %d, %d", i, l.End(), l.Left())
		}
	}
	var want []byte
	at := 0
	for _, rec := range recs {
		for _, f := range wal.Frame(at, rec) {
			want = append(want, f...)
			at++
		}
	}
	if !bytes.Equal(d.Image(), want) || !bytes.Equal(d.Durable(), make([]byte, 12*512)) {
		t.Error("the bytes of the disk")
	}
	mustOK(t, l.Sync())
	if !bytes.Equal(d.Durable(), want) || l.Synced() != len(recs) || d.Pending() != 0 {
		t.Error("Sync")
	}
	l.Records()[0] = "changed"
	if !slices.Equal(l.Records(), recs) {
		t.Error("Records shares memory")
	}
}

func TestP20_3Examples(t *testing.T) {
	for cut, want := range map[int][]string{0: {"a"}, 1: {"a"}, 511: {"a"}, 512: {"a", "b"}} {
		d := made(t, 4)
		l := opened(t, d)
		mustOK(t, l.Append("a"))
		mustOK(t, l.Sync())
		mustOK(t, l.Append("b"))
		if l.Synced() != 1 || len(l.Records()) != 2 || l.End() != 2 {
			t.Error(l.Synced(), l.Records(), l.End())
		}
		mustOK(t, d.Crash([]int{cut}))
		if recs, _ := wal.Scan(d.Image()); !slices.Equal(recs, want) {
			t.Errorf("cut %d: %v", cut, recs)
		}
		if l := opened(t, d); !slices.Equal(l.Records(), want) || l.Synced() != len(want) {
			t.Errorf("cut %d: opened again", cut)
		}
	}
}

func isPrefix(a, b []string) bool { return len(a) <= len(b) && slices.Equal(a, b[:len(a)]) }

// After each crash, also one while the log is being opened, what is found is a prefix with all that was synced.
func TestP20_4Crashes(t *testing.T) {
	r := rand.New(rand.NewSource(27))
	cuts := func() []int {
		var l []int
		for range r.Intn(40) {
			l = append(l, []int{0, 1, 8, 9, 11, 60, 503, 504, 510, 511, 512, 512, 512, 512, 512}[r.Intn(15)])
		}
		return l
	}
	torn, kept := 0, 0
	for range 400 {
		d := made(t, 60)
		var synced, all []string
		for range 8 {
			l := opened(t, d)
			if got := l.Records(); !isPrefix(synced, got) || !isPrefix(got, all) || l.Synced() != len(got) {
				t.Fatalf("found %d records, synced %d, appended %d", len(got), len(synced), len(all))
			}
			if again, _ := wal.Scan(d.Image()); !slices.Equal(again, l.Records()) {
				t.Fatal("opening changes what is found")
			}
			all = l.Records()
			synced = l.Records()
			for range r.Intn(6) {
				rec := string([]byte{byte(r.Intn(256))}) + text(r.Intn(1200)) + string(make([]byte, r.Intn(3)))
				if r.Intn(5) == 0 {
					rec = strings.Repeat("\x00", r.Intn(600))
				}
				if l.Append(rec) == api.OK {
					all = append(all, rec)
				}
				if r.Intn(3) == 0 {
					mustOK(t, l.Sync())
					synced = slices.Clone(all)
				}
			}
			pending := d.Pending()
			mustOK(t, d.Crash(cuts()))
			recs, _ := wal.Scan(d.Image())
			if len(recs) < len(all) && pending > 0 {
				torn++
			} else if len(recs) > len(synced) {
				kept++
			}
			if !isPrefix(synced, recs) || !isPrefix(recs, all) {
				t.Fatalf("found %d records, synced %d, appended %d", len(recs), len(synced), len(all))
			}
			// An opening may itself be cut off: what it writes are zero bytes behind the end.
			b := d.Image()
			_, end := wal.Scan(b)
			for at := end; at < 60; at++ {
				if n := r.Intn(513); r.Intn(2) == 0 {
					clear(b[at*512 : at*512+n])
				}
			}
			if again, _ := wal.Scan(b); !slices.Equal(again, recs) {
				t.Fatal("zero bytes of an opening change what is found")
			}
			if r.Intn(2) == 0 {
				d, _ = disk.Of(b)
			}
			all, synced = recs, recs
		}
	}
	if torn < 100 || kept < 100 {
		t.Error(torn, kept)
	}
}
