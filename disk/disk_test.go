package disk_test

import (
	"bytes"
	"math"
	"math/rand"
	"testing"

	"outlaw/api"
	"outlaw/disk"
)

func made(t *testing.T, sectors int) *disk.Disk {
	t.Helper()
	d, e := disk.New(sectors)
	if e != api.OK {
		t.Fatal(e)
	}
	return d
}

// padded is a sector that begins with s.
func padded(s string) []byte {
	b := make([]byte, api.SectorSize)
	copy(b, s)
	return b
}

func TestP19_1NewAndOf(t *testing.T) {
	for n, want := range map[int]api.Errno{1: 0, 7: 0, 1024: 0, 0: api.ErrArg, -1: api.ErrArg, 1025: api.ErrArg, math.MaxInt: api.ErrArg, math.MinInt: api.ErrArg} {
		d, e := disk.New(n)
		if e != want || (d == nil) != (e != api.OK) {
			t.Errorf("New(%d): %v", n, e)
		}
		if d != nil && (d.Sectors() != n || d.Pending() != 0 || !bytes.Equal(d.Image(), make([]byte, n*512)) || !bytes.Equal(d.Durable(), make([]byte, n*512))) {
			t.Errorf("New(%d) is not a disk of zero bytes", n)
		}
	}
	for n, want := range map[int]api.Errno{512: 0, 1536: 0, 1024 * 512: 0, 0: api.ErrArg, 1: api.ErrArg, 511: api.ErrArg, 513: api.ErrArg, 1025 * 512: api.ErrArg, 1000: api.ErrArg} {
		b := make([]byte, n)
		for i := range b {
			b[i] = byte(i*7 + i/512 + 1)
		}
		d, e := disk.Of(b)
		if e != want || (d == nil) != (e != api.OK) {
			t.Errorf("Of %d bytes: %v", n, e)
		}
		if d == nil {
			continue
		}
		keep := bytes.Clone(b)
		clear(b)
		if d.Sectors() != n/512 || d.Pending() != 0 || !bytes.Equal(d.Image(), keep) || !bytes.Equal(d.Durable(), keep) {
			t.Errorf("Of %d bytes has others", n)
		}
		if s, e := d.Read(d.Sectors() - 1); e != api.OK || !bytes.Equal(s, keep[n-512:]) {
			t.Errorf("Read of %d bytes", n)
		}
	}
	if _, e := disk.Of(nil); e != api.ErrArg {
		t.Error(e)
	}
}

func TestP19_1Invalid(t *testing.T) {
	for i, d := range []*disk.Disk{nil, {}} {
		b, e := d.Read(0)
		if len(b) != 0 || e != api.ErrNil || d.Write(0, nil) != api.ErrNil || d.Write(9, make([]byte, 600)) != api.ErrNil || d.Sync() != api.ErrNil || d.Crash(nil) != api.ErrNil || d.Pending() != 0 || d.Sectors() != 0 || len(d.Image()) != 0 || len(d.Durable()) != 0 {
			t.Errorf("%d: a disk that was not made does something", i)
		}
		if _, e := d.Read(9); e != api.ErrNil {
			t.Error(e)
		}
	}
}

func TestP19_1WriteAndRead(t *testing.T) {
	d := made(t, 3)
	long := bytes.Repeat([]byte("y"), 512)
	for i, x := range []struct {
		at   int
		b    []byte
		want api.Errno
	}{
		{0, []byte("abc"), 0}, {2, long, 0}, {2, nil, 0}, {1, append(long, 'z'), api.ErrLong}, {3, nil, api.ErrArg}, {-1, nil, api.ErrArg}, {3, append(long, 'z'), api.ErrArg}, {math.MaxInt, nil, api.ErrArg}, {math.MinInt, nil, api.ErrArg}, {1, long, 0}, {1, []byte("ab"), 0},
	} {
		before := d.Pending()
		if e := d.Write(x.at, x.b); e != x.want {
			t.Errorf("%d: %v", i, e)
		}
		if x.want != api.OK && d.Pending() != before {
			t.Errorf("%d: an error writes", i)
		}
		if x.want == api.OK {
			if b, e := d.Read(x.at); e != api.OK || !bytes.Equal(b, padded(string(x.b))) || d.Pending() != before+1 {
				t.Errorf("%d: what was written last is read: %v", i, e)
			}
		}
	}
	for _, at := range []int{-1, 3, math.MaxInt, math.MinInt} {
		if b, e := d.Read(at); len(b) != 0 || e != api.ErrArg {
			t.Errorf("Read(%d): %v", at, e)
		}
	}
	if want := append(append(padded("abc"), padded("ab")...), padded("")...); !bytes.Equal(d.Image(), want) || !bytes.Equal(d.Durable(), make([]byte, 1536)) {
		t.Error("Image, or Durable before a sync")
	}
}

func TestP19_1SharesNothing(t *testing.T) {
	d := made(t, 1)
	b := []byte("abc")
	d.Write(0, b)
	b[0] = 'z'
	r, _ := d.Read(0)
	r[1] = 'z'
	d.Image()[2] = 'z'
	d.Durable()[0] = 'z'
	if !bytes.Equal(d.Image(), padded("abc")) || !bytes.Equal(d.Durable(), padded("")) {
		t.Error("before a sync")
	}
	d.Sync()
	d.Durable()[0] = 'z'
	if !bytes.Equal(d.Durable(), padded("abc")) {
		t.Error("after a sync")
	}
}

func TestP19_2Crash(t *testing.T) {
	type op struct {
		s    string
		sync bool
	}
	w := func(s string) op { return op{s: s} }
	sync := op{sync: true}
	full := string(bytes.Repeat([]byte("f"), 512))
	for i, x := range []struct {
		ops  []op
		cuts []int
		want string
	}{
		{[]op{w("ab")}, []int{1}, "a"}, {[]op{w("ab"), sync, w("cd")}, nil, "ab"}, {[]op{w("ab"), sync, w("cd")}, []int{1}, "cb"}, {[]op{w("ab"), sync, w("c")}, []int{1}, "cb"}, {[]op{w("ab"), sync, w("c")}, []int{2}, "c"}, {[]op{w("ab"), sync, w("c")}, []int{0}, "ab"},
		{[]op{w("ab"), sync, w("cd"), w("ef")}, []int{1, 0}, "cb"}, {[]op{w("ab"), sync, w("cd"), w("ef")}, []int{0, 1}, "eb"}, {[]op{w("ab"), sync, w("cd"), w("ef")}, []int{2, 1}, "ed"}, {[]op{w("ab"), sync, w("cd"), w("ef")}, []int{512}, "cd"},
		{[]op{w("ab"), sync, w("cd")}, []int{-1}, "ab"}, {[]op{w("ab"), sync, w("cd")}, []int{math.MinInt}, "ab"}, {[]op{w("ab"), sync, w("cd")}, []int{math.MaxInt}, "cd"}, {[]op{w("ab"), sync, w("cd")}, []int{513, 5, 5}, "cd"},
		{[]op{w(full), sync, w("cd")}, []int{511}, "cd" + string(make([]byte, 509)) + "f"}, {[]op{w(full), sync, w("cd")}, []int{512}, "cd"}, {[]op{w(full)}, []int{511}, full[:511]}, {[]op{sync, w("x"), sync}, []int{0}, "x"}, {nil, []int{5}, ""},
	} {
		d := made(t, 2)
		d.Write(1, []byte("other"))
		d.Sync()
		for _, o := range x.ops {
			if o.sync {
				if e := d.Sync(); e != api.OK || d.Pending() != 0 || !bytes.Equal(d.Durable(), d.Image()) {
					t.Errorf("%d: Sync", i)
				}
			} else {
				d.Write(0, []byte(o.s))
			}
		}
		if e := d.Crash(x.cuts); e != api.OK {
			t.Errorf("%d: %v", i, e)
		}
		if want := append(padded(x.want), padded("other")...); !bytes.Equal(d.Image(), want) || !bytes.Equal(d.Durable(), want) || d.Pending() != 0 {
			t.Errorf("%d: %.5q, want %.5q", i, d.Image(), x.want)
		}
		if d.Crash([]int{512, 512}); !bytes.Equal(d.Image(), append(padded(x.want), padded("other")...)) {
			t.Errorf("%d: a second crash changes something", i)
		}
	}
}

// Several sectors are written in some order; the model has each pending write.
func TestP19_2AndP19_3Model(t *testing.T) {
	r := rand.New(rand.NewSource(26))
	for range 300 {
		d := made(t, 4)
		now, durable := make([]byte, 2048), make([]byte, 2048)
		type write struct {
			at int
			b  []byte
		}
		var pending []write
		for range 30 {
			switch n := r.Intn(8); {
			case n < 5:
				w := write{r.Intn(4), make([]byte, 512)}
				r.Read(w.b[:[]int{0, 1, 100, 512}[r.Intn(4)]])
				if e := d.Write(w.at, bytes.TrimRight(w.b, "\x00")); e != api.OK {
					t.Fatal(e)
				}
				pending = append(pending, w)
				copy(now[w.at*512:], w.b)
			case n == 5:
				d.Sync()
				pending = nil
				durable = bytes.Clone(now)
			case n == 6:
				var cuts []int
				for range r.Intn(6) {
					cuts = append(cuts, []int{-5, 0, 1, 77, 511, 512, 600}[r.Intn(7)])
				}
				d.Crash(cuts)
				for i, w := range pending {
					if i < len(cuts) {
						copy(durable[w.at*512:w.at*512+min(max(cuts[i], 0), 512)], w.b)
					}
				}
				pending = nil
				now = bytes.Clone(durable)
			}
			if !bytes.Equal(d.Image(), now) || !bytes.Equal(d.Durable(), durable) || d.Pending() != len(pending) || d.Sectors() != 4 {
				t.Fatal("the disk differs from the model")
			}
		}
	}
}

func TestP19_3(t *testing.T) {
	for range 2 {
		a, b, c := made(t, 3), made(t, 3), made(t, 3)
		for _, d := range []*disk.Disk{a, b, c} {
			d.Write(0, []byte("kept"))
			d.Write(1, []byte("old"))
			d.Sync()
			d.Write(1, []byte("newer"))
			d.Write(1, []byte("newest"))
			d.Write(2, []byte("two"))
		}
		a.Crash([]int{512, 512, 512})
		b.Sync()
		c.Crash(nil)
		if !bytes.Equal(a.Image(), b.Image()) || !bytes.Equal(a.Durable(), b.Durable()) {
			t.Error("a crash in which all writes are complete is a sync")
		}
		want := append(append(padded("kept"), padded("old")...), padded("")...)
		if !bytes.Equal(c.Image(), want) || !bytes.Equal(c.Durable(), want) {
			t.Error("a crash without cuts is as if nothing had been pending")
		}
	}
}
