package codec

import (
	"bytes"
	"hash/crc32"
	"math"
	"math/bits"
	"testing"

	"abecedary/api"
)

// numbers are written out by hand: the edges of each number of bytes among them.
var numbers = []struct {
	n uint64
	b []byte
}{
	{0, []byte{0}},
	{1, []byte{1}},
	{127, []byte{0x7f}},
	{128, []byte{0x80, 1}},
	{129, []byte{0x81, 1}},
	{255, []byte{0xff, 1}},
	{256, []byte{0x80, 2}},
	{300, []byte{0xac, 2}},
	{16383, []byte{0xff, 0x7f}},
	{16384, []byte{0x80, 0x80, 1}},
	{2097152, []byte{0x80, 0x80, 0x80, 1}},
	{math.MaxUint32, []byte{0xff, 0xff, 0xff, 0xff, 0x0f}},
	{math.MaxInt64, []byte{0xff, 0xff, 0xff, 0xff, 0xff, 0xff, 0xff, 0xff, 0x7f}},
	{1 << 63, []byte{0x80, 0x80, 0x80, 0x80, 0x80, 0x80, 0x80, 0x80, 0x80, 1}},
	{math.MaxUint64, []byte{0xff, 0xff, 0xff, 0xff, 0xff, 0xff, 0xff, 0xff, 0xff, 1}},
}

// noNumbers begin with no writing of a number.
var noNumbers = []struct {
	b []byte
	e api.Errno
}{
	{nil, api.ErrCodecShort},
	{[]byte{0x80}, api.ErrCodecShort},
	{[]byte{0xff, 0x80, 0x80}, api.ErrCodecShort},
	{bytes.Repeat([]byte{0x80}, 9), api.ErrCodecShort},
	{bytes.Repeat([]byte{0xff}, 9), api.ErrCodecShort},
	{[]byte{0x80, 0}, api.ErrCodecForm},
	{[]byte{0xff, 0}, api.ErrCodecForm},
	{[]byte{0x80, 0x80, 0}, api.ErrCodecForm},
	{[]byte{0x80, 0, 1}, api.ErrCodecForm},
	{append(bytes.Repeat([]byte{0x80}, 8), 0), api.ErrCodecForm},
	{append(bytes.Repeat([]byte{0xff}, 9), 0), api.ErrCodecForm},
	{append(bytes.Repeat([]byte{0xff}, 9), 2), api.ErrCodecForm},
	{append(bytes.Repeat([]byte{0x80}, 9), 2), api.ErrCodecForm},
	{append(bytes.Repeat([]byte{0x80}, 9), 0x7f), api.ErrCodecForm},
	{bytes.Repeat([]byte{0x80}, 10), api.ErrCodecForm},
	{append(bytes.Repeat([]byte{0x80}, 9), 0x81, 1), api.ErrCodecForm},
	{append(bytes.Repeat([]byte{0x80}, 10), 1), api.ErrCodecForm},
	{bytes.Repeat([]byte{0xff}, 40), api.ErrCodecForm},
}

func join(parts ...[]byte) []byte {
	return bytes.Join(parts, nil)
}

// wantFailed holds r against a reader that has failed with e ahead of left bytes, and stays so.
func wantFailed(t *testing.T, what any, r *Reader, e api.Errno, left int) {
	t.Helper()
	for range 2 {
		if r.Err() != e || r.End() != e || r.Left() != left {
			t.Errorf("%v: Err %d, End %d, Left %d, want %d, %d, %d", what, r.Err(), r.End(), r.Left(), e, e, left)
		}
		if c := r.Byte(); c != 0 {
			t.Errorf("%v: Byte tells %d behind a failure", what, c)
		}
		if n := r.Uint(math.MaxUint64); n != 0 {
			t.Errorf("%v: Uint tells %d behind a failure", what, n)
		}
		if x := r.Bytes(math.MaxInt); len(x) != 0 {
			t.Errorf("%v: Bytes tells %v behind a failure", what, x)
		}
		r.Fail(e + 1)
		r.Fail(api.OK)
	}
}

// P2.1
func TestPutUint(t *testing.T) {
	for _, x := range numbers {
		for _, b := range [][]byte{nil, {9}, {0x80, 0x80}} {
			if got := PutUint(b, x.n); !bytes.Equal(got, join(b, x.b)) {
				t.Errorf("PutUint(%x, %d) = %x, want %x", b, x.n, got, join(b, x.b))
			}
		}
	}
}

// P2.1
func TestPutBytes(t *testing.T) {
	long := bytes.Repeat([]byte{7}, 300)
	for _, x := range []struct{ x, want []byte }{
		{nil, []byte{0}},
		{[]byte{}, []byte{0}},
		{[]byte{0}, []byte{1, 0}},
		{[]byte("ab"), []byte{2, 0x61, 0x62}},
		{long[:127], join([]byte{0x7f}, long[:127])},
		{long[:128], join([]byte{0x80, 1}, long[:128])},
		{long, join([]byte{0xac, 2}, long)},
	} {
		for _, b := range [][]byte{nil, {9}, {0x80, 0x80}} {
			if got := PutBytes(b, x.x); !bytes.Equal(got, join(b, x.want)) {
				t.Errorf("PutBytes(%x, %x) = %x", b, x.x, got)
			}
		}
	}
}

// P2.1, R5: what stands in b, and ahead of it in its memory, stays.
func TestPutLeavesWhatIsThere(t *testing.T) {
	whole := []byte{1, 2, 3, 4, 0, 0, 0, 0, 0, 0, 0, 0}
	b := whole[2:4]
	x := []byte("xyz")
	if got := PutUint(b, 300); !bytes.Equal(got, []byte{3, 4, 0xac, 2}) {
		t.Errorf("PutUint = %x", got)
	}
	if got := PutBytes(b, x); !bytes.Equal(got, []byte{3, 4, 3, 'x', 'y', 'z'}) {
		t.Errorf("PutBytes = %x", got)
	}
	if !bytes.Equal(whole[:4], []byte{1, 2, 3, 4}) || string(x) != "xyz" {
		t.Errorf("what was given has changed: %x %x", whole[:4], x)
	}
	x[0] = 'a'
	got := PutBytes(nil, x)
	x[1] = 'b'
	if !bytes.Equal(got, []byte{3, 'a', 'y', 'z'}) {
		t.Errorf("what was told has changed: %x", got)
	}
}

// P2.1: the bytes may lie where the writing goes.
func TestPutBytesThatLieBehind(t *testing.T) {
	for from := range 6 {
		whole := []byte{1, 2, 3, 4, 5, 6, 7, 8, 9, 10, 11, 12}
		want := join([]byte{1, 4}, whole[from:from+4])
		if got := PutBytes(whole[:1], whole[from:from+4]); !bytes.Equal(got, want) {
			t.Errorf("from %d: %x, want %x", from, got, want)
		}
	}
}

// P2.2
func TestByte(t *testing.T) {
	r := Read([]byte{5, 0, 255})
	for i, want := range []byte{5, 0, 255} {
		if r.Left() != 3-i || r.End() != api.ErrCodecMore || r.Err() != api.OK {
			t.Errorf("ahead of byte %d: Left %d, End %d, Err %d", i, r.Left(), r.End(), r.Err())
		}
		if c := r.Byte(); c != want {
			t.Errorf("Byte = %d, want %d", c, want)
		}
	}
	if r.Left() != 0 || r.End() != api.OK || r.Err() != api.OK {
		t.Errorf("at the end: Left %d, End %d, Err %d", r.Left(), r.End(), r.Err())
	}
	if r.Byte() != 0 {
		t.Error("Byte at the end is not 0")
	}
	wantFailed(t, "Byte at the end", r, api.ErrCodecShort, 0)
}

// P2.2
func TestUintReads(t *testing.T) {
	for _, x := range numbers {
		for _, most := range []uint64{x.n, max(x.n, math.MaxUint64-1), math.MaxUint64} {
			r := Read(join(x.b, []byte{0x80}))
			if n := r.Uint(most); n != x.n || r.Err() != api.OK || r.Left() != 1 {
				t.Errorf("Uint(%d) of %x = %d, Err %d, Left %d", most, x.b, n, r.Err(), r.Left())
			}
		}
	}
}

// P2.2
func TestUintRefuses(t *testing.T) {
	for _, x := range noNumbers {
		for _, most := range []uint64{0, 9, math.MaxUint64} {
			r := Read(x.b)
			if n := r.Uint(most); n != 0 {
				t.Errorf("Uint(%d) of %x = %d", most, x.b, n)
			}
			wantFailed(t, x.b, r, x.e, len(x.b))
		}
	}
	for _, x := range numbers {
		if x.n == 0 {
			continue
		}
		for _, most := range []uint64{0, x.n / 2, x.n - 1} {
			r := Read(join(x.b, []byte{3}))
			if n := r.Uint(most); n != 0 {
				t.Errorf("Uint(%d) of %x = %d", most, x.b, n)
			}
			wantFailed(t, x.b, r, api.ErrCodecLong, len(x.b)+1)
		}
	}
}

// P2.2: a call that fails leaves the reader where it was, not at the front.
func TestFailsWhereItIs(t *testing.T) {
	r := Read([]byte{1, 2, 0x80, 0, 7})
	if r.Byte() != 1 || r.Uint(2) != 2 || r.Uint(9) != 0 {
		t.Error("not 1, 2, 0")
	}
	wantFailed(t, "behind two", r, api.ErrCodecForm, 3)
}

// P2.2
func TestBytesReads(t *testing.T) {
	for _, x := range []struct {
		b    []byte
		most int
		want string
		left int
	}{
		{[]byte{0}, 0, "", 0},
		{[]byte{0}, -1, "", 0},
		{[]byte{0}, math.MinInt, "", 0},
		{[]byte{0, 5}, 9, "", 1},
		{[]byte{2, 'a', 'b'}, 2, "ab", 0},
		{[]byte{2, 'a', 'b'}, math.MaxInt, "ab", 0},
		{[]byte{2, 'a', 'b', 'c'}, 3, "ab", 1},
		{PutBytes(nil, make([]byte, 300)), 300, string(make([]byte, 300)), 0},
	} {
		r := Read(x.b)
		if got := r.Bytes(x.most); string(got) != x.want || r.Err() != api.OK || r.Left() != x.left {
			t.Errorf("Bytes(%d) of %x = %x, Err %d, Left %d", x.most, x.b, got, r.Err(), r.Left())
		}
	}
}

// P2.2
func TestBytesRefuses(t *testing.T) {
	huge := PutUint(nil, math.MaxUint64)
	for _, x := range []struct {
		b    []byte
		most int
		e    api.Errno
	}{
		{[]byte{1, 'a'}, 0, api.ErrCodecLong},
		{[]byte{1, 'a'}, -1, api.ErrCodecLong},
		{[]byte{1, 'a'}, math.MinInt, api.ErrCodecLong},
		{[]byte{3, 'a', 'b', 'c'}, 2, api.ErrCodecLong},
		// The number is held against most first.
		{[]byte{3, 'a', 'b'}, 2, api.ErrCodecLong},
		{[]byte{3, 'a', 'b'}, 3, api.ErrCodecShort},
		{[]byte{3, 'a', 'b'}, math.MaxInt, api.ErrCodecShort},
		{[]byte{1}, 1, api.ErrCodecShort},
		{append([]byte{0x80, 1}, make([]byte, 127)...), 128, api.ErrCodecShort},
		{huge, math.MaxInt, api.ErrCodecLong},
		{PutUint(nil, math.MaxInt), math.MaxInt, api.ErrCodecShort},
	} {
		r := Read(x.b)
		if got := r.Bytes(x.most); len(got) != 0 {
			t.Errorf("Bytes(%d) of %x = %x", x.most, x.b, got)
		}
		wantFailed(t, x.b, r, x.e, len(x.b))
	}
	for _, x := range noNumbers {
		r := Read(x.b)
		if got := r.Bytes(math.MaxInt); len(got) != 0 {
			t.Errorf("Bytes of %x = %x", x.b, got)
		}
		wantFailed(t, x.b, r, x.e, len(x.b))
	}
}

// P2.2
func TestFailAndEnd(t *testing.T) {
	for _, e := range []api.Errno{api.ErrArg, api.ErrCodecSum, api.ErrPackForm, -5} {
		r := Read([]byte{1, 2})
		r.Fail(api.OK)
		if r.Err() != api.OK || r.Byte() != 1 {
			t.Error("Fail(OK) makes it fail")
		}
		r.Fail(e)
		wantFailed(t, e, r, e, 1)
	}
	r := Read([]byte{4})
	if r.End() != api.ErrCodecMore || r.Err() != api.OK || r.Uint(4) != 4 || r.End() != api.OK {
		t.Error("End makes it fail, or tells the wrong thing")
	}
	// Where it has failed with bytes left, and with none.
	r = Read([]byte{4, 4})
	r.Uint(3)
	wantFailed(t, "Uint", r, api.ErrCodecLong, 2)
	r = Read(nil)
	if r.End() != api.OK || r.Left() != 0 {
		t.Error("a reader of nothing has something")
	}
	r.Fail(api.ErrArg)
	wantFailed(t, "nothing", r, api.ErrArg, 0)
}

// P2.2, R5, R6: neither what is handed in nor what is told is shared.
func TestReaderSharesNothing(t *testing.T) {
	b := []byte{2, 'a', 'b', 2, 'c', 'd'}
	r := Read(b)
	first := r.Bytes(2)
	first[0] = 'x'
	_ = append(first, 9, 9, 9)
	if !bytes.Equal(b, []byte{2, 'a', 'b', 2, 'c', 'd'}) {
		t.Errorf("what was handed in has changed: %x", b)
	}
	b[3], b[4] = 1, 'y'
	second := r.Bytes(2)
	if string(first) != "xb" || string(second) != "cd" || r.End() != api.OK {
		t.Errorf("%q, %q, End %d", first, second, r.End())
	}
	b[4] = 'z'
	if string(second) != "cd" {
		t.Errorf("what was told has changed: %q", second)
	}
	// Two readers of the same bytes do not know of each other.
	one, two := Read([]byte{1, 2}), Read([]byte{1, 2})
	one.Byte()
	one.Fail(api.ErrArg)
	if two.Err() != api.OK || two.Byte() != 1 {
		t.Error("one reader has moved the other one")
	}
}

// P2.3
func TestSum(t *testing.T) {
	for _, x := range []struct {
		s    string
		want uint32
	}{
		{"", 0},
		{"a", 0xc1d04330},
		{"123456789", 0xe3069283},
		{string(make([]byte, 32)), 0x8a9136aa},
		{string(bytes.Repeat([]byte{0xff}, 32)), 0x62a8ab43},
	} {
		if got := Sum([]byte(x.s)); got != x.want {
			t.Errorf("Sum(%x) = %08x, want %08x", x.s, got, x.want)
		}
	}
}

// P2.3: held against the library's, for each byte and for many lengths.
func TestSumAgainstLibrary(t *testing.T) {
	table := crc32.MakeTable(crc32.Castagnoli)
	b := make([]byte, 600)
	for i := range b {
		b[i] = byte(i * i / 3)
	}
	for n := range b {
		if got, want := Sum(b[:n]), crc32.Checksum(b[:n], table); got != want {
			t.Errorf("Sum of %d bytes = %08x, want %08x", n, got, want)
		}
	}
	for c := range 256 {
		if got, want := Sum([]byte{byte(c)}), crc32.Checksum([]byte{byte(c)}, table); got != want {
			t.Errorf("Sum of %d = %08x, want %08x", c, got, want)
		}
	}
}

func wantUnseal(t *testing.T, b, want []byte, size int) {
	t.Helper()
	got, n, e := Unseal(b)
	if e != api.OK || n != size || !bytes.Equal(got, want) {
		t.Errorf("Unseal of %d bytes = %d bytes, %d, %d, want %d bytes, %d, OK", len(b), len(got), n, e, len(want), size)
	}
}

func wantNoUnseal(t *testing.T, b []byte, want api.Errno) {
	t.Helper()
	if got, n, e := Unseal(b); e != want || n != 0 || len(got) != 0 {
		t.Errorf("Unseal(%x) = %x, %d, %d, want nothing, 0, %d", b, got, n, e, want)
	}
}

// P2.4
func TestSeal(t *testing.T) {
	for _, x := range []struct {
		b    string
		want []byte
	}{
		{"", []byte{0, 0, 0, 0, 0}},
		{"a", []byte{1, 'a', 0x30, 0x43, 0xd0, 0xc1}},
		{"123456789", []byte("\x09123456789\x83\x92\x06\xe3")},
	} {
		got, e := Seal([]byte(x.b))
		if e != api.OK || !bytes.Equal(got, x.want) {
			t.Errorf("Seal(%q) = %x, %d, want %x", x.b, got, e, x.want)
		}
		wantUnseal(t, got, []byte(x.b), len(got))
		wantUnseal(t, append(got, 1, 2, 3), []byte(x.b), len(got))
		wantUnseal(t, append(got, got...), []byte(x.b), len(got))
	}
}

// P2.4
func TestSealOfMaxFrame(t *testing.T) {
	b := make([]byte, api.MaxFrame+1)
	for i := range b {
		b[i] = byte(i >> 3)
	}
	if got, e := Seal(b); e != api.ErrCodecLong || len(got) != 0 {
		t.Errorf("Seal of one byte too much: %d bytes, %d", len(got), e)
	}
	most, e := Seal(b[:api.MaxFrame])
	if e != api.OK || len(most) != 4+api.MaxFrame+4 {
		t.Fatalf("Seal of MaxFrame bytes: %d bytes, %d", len(most), e)
	}
	wantUnseal(t, most, b[:api.MaxFrame], len(most))
	wantUnseal(t, append(most, 5), b[:api.MaxFrame], len(most))
	for _, n := range []int{0, 1, 3, 4, 5, api.MaxFrame, api.MaxFrame + 4, api.MaxFrame + 7} {
		if got, size, e := Unseal(most[:n]); e != api.ErrCodecShort || size != 0 || len(got) != 0 {
			t.Errorf("Unseal of %d bytes of the greatest seal: %d, %d, %d", n, len(got), size, e)
		}
	}
}

// P2.4
func TestUnsealRefuses(t *testing.T) {
	for _, x := range noNumbers {
		wantNoUnseal(t, x.b, x.e)
	}
	// More than MaxFrame is said ahead of too little.
	wantNoUnseal(t, PutUint(nil, api.MaxFrame+1), api.ErrCodecLong)
	wantNoUnseal(t, PutUint(nil, math.MaxUint64), api.ErrCodecLong)
	wantNoUnseal(t, PutUint(nil, api.MaxFrame), api.ErrCodecShort)
	wantNoUnseal(t, []byte{0, 0, 0, 0}, api.ErrCodecShort)
	wantNoUnseal(t, []byte{2, 'a', 'b', 1, 2, 3}, api.ErrCodecShort)
	wantNoUnseal(t, []byte{0, 0, 0, 0, 1}, api.ErrCodecSum)
	wantNoUnseal(t, []byte{0, 1, 0, 0, 0}, api.ErrCodecSum)
	// The sum in the other order.
	wantNoUnseal(t, []byte{1, 'a', 0xc1, 0xd0, 0x43, 0x30}, api.ErrCodecSum)
}

// P2.4, R5, R6
func TestSealsShareNothing(t *testing.T) {
	b := []byte("abc")
	s, _ := Seal(b)
	same := bytes.Clone(s)
	b[0] = 'x'
	if !bytes.Equal(s, same) {
		t.Errorf("what Seal told has changed: %x", s)
	}
	got, _, _ := Unseal(s)
	got[0] = 'y'
	_ = append(got, 1, 2, 3, 4)
	if !bytes.Equal(s, same) {
		t.Errorf("what Unseal was given has changed: %x", s)
	}
	s[1] = 'z'
	if string(got) != "ybc" {
		t.Errorf("what Unseal told has changed: %q", got)
	}
}

// P2.5
func TestWrittenIsRead(t *testing.T) {
	var b []byte
	for i, x := range numbers {
		b = PutUint(b, x.n)
		b = append(b, byte(i))
		b = PutBytes(b, x.b)
	}
	r := Read(b)
	for i, x := range numbers {
		if n := r.Uint(math.MaxUint64); n != x.n {
			t.Errorf("%d was written, %d is read", x.n, n)
		}
		if c := r.Byte(); c != byte(i) {
			t.Errorf("%d was written, %d is read", i, c)
		}
		if got := r.Bytes(10); !bytes.Equal(got, x.b) {
			t.Errorf("%x was written, %x is read", x.b, got)
		}
	}
	if r.End() != api.OK {
		t.Errorf("End = %d", r.End())
	}
	for n := uint64(0); n < 70000; n++ {
		if r := Read(PutUint(nil, n)); r.Uint(n) != n || r.End() != api.OK {
			t.Fatalf("%d is not read as it was written", n)
		}
	}
	for i := range 64 {
		for _, n := range []uint64{1 << i, 1<<i - 1, 1<<i + 1, ^uint64(0) >> i} {
			b := PutUint(nil, n)
			if r := Read(b); r.Uint(n) != n || r.End() != api.OK || len(b) != max(1, (bits.Len64(n)+6)/7) {
				t.Errorf("%d is not read as it was written: %x", n, b)
			}
		}
	}
}

// P2.5: of all texts of up to three bytes, and of long ones of bytes where something changes.
func TestReadIsWritten(t *testing.T) {
	for n := range 1 << 24 {
		b := []byte{byte(n), byte(n >> 8), byte(n >> 16)}
		for size := 3; size > 0 && (size == 3 || b[size] == 0); size-- {
			checkWrittenAgain(t, b[:size])
		}
		if t.Failed() {
			return
		}
	}
	edges := []byte{0, 1, 2, 127, 128, 129, 255}
	for size := 8; size <= 11; size++ {
		for i := range len(edges) * len(edges) * len(edges) * 2 {
			b := bytes.Repeat([]byte{0x80 + byte(i%2)}, size)
			for k, j := size-3, i/2; k < size; k, j = k+1, j/len(edges) {
				b[k] = edges[j%len(edges)]
			}
			checkWrittenAgain(t, b)
		}
	}
}

func checkWrittenAgain(t *testing.T, b []byte) {
	r := Reader{left: b}
	n := r.Uint(math.MaxUint64)
	if read := b[:len(b)-r.Left()]; r.Err() == api.OK && !bytes.Equal(PutUint(nil, n), read) {
		t.Errorf("%x was read, %x is written", read, PutUint(nil, n))
	}
	r = Reader{left: b}
	x := r.Bytes(math.MaxInt)
	if read := b[:len(b)-r.Left()]; r.Err() == api.OK && !bytes.Equal(PutBytes(nil, x), read) {
		t.Errorf("%x was read, %x is written", read, PutBytes(nil, x))
	}
}

// P2.5
func TestSealsAreReadAndWrittenAgain(t *testing.T) {
	for n := range 300 {
		b := make([]byte, n)
		for i := range b {
			b[i] = byte(i*7 + n)
		}
		s, e := Seal(b)
		if e != api.OK {
			t.Fatalf("Seal of %d bytes: %d", n, e)
		}
		wantUnseal(t, s, b, len(s))
		for cut := range s {
			wantNoUnseal(t, s[:cut], api.ErrCodecShort)
		}
		got, size, _ := Unseal(append(s, 8, 8))
		if again, e := Seal(got); e != api.OK || !bytes.Equal(again, s[:size]) {
			t.Errorf("a seal of %d bytes is written as another one", n)
		}
	}
}

// P2.6: shapes of every width up to 32, laid at every place, over the border of the bytes and their sum too.
func TestTurnedBits(t *testing.T) {
	for _, b := range [][]byte{nil, {0}, []byte("a"), []byte("abc"), make([]byte, 9), []byte("what is sealed here"), bytes.Repeat([]byte{0xff}, 130)} {
		s, _ := Seal(b)
		head := len(PutUint(nil, uint64(len(b))))
		row := s[head:]
		for first := range 8 * len(row) {
			for width := 1; width <= 32 && first+width <= 8*len(row); width++ {
				for _, shape := range shapes(width) {
					turnBits(row, first, shape)
					wantNoUnseal(t, s, api.ErrCodecSum)
					turnBits(row, first, shape)
				}
			}
			if t.Failed() {
				return
			}
		}
		wantUnseal(t, s, b, len(s))
	}
}

// shapes have their first bit and the one at the end of width turned, and none, all or some between.
func shapes(width int) []uint64 {
	ends := uint64(1) | 1<<(width-1)
	full := uint64(1)<<width - 1
	return []uint64{ends, full, ends | full&0x5555_5555, ends | full&0x82f6_3b78, ends | full&0x1edc_6f41}
}

// turnBits turns the bits of row that shape says, the lowest bit of a byte first, from bit first on.
func turnBits(row []byte, first int, shape uint64) {
	for i := range 64 {
		if shape>>i&1 == 1 {
			row[(first+i)/8] ^= 1 << ((first + i) % 8)
		}
	}
}
