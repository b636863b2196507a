package tests

import (
	"encoding/binary"
	"hash/crc32"
	"math"
	"math/rand"
	"strings"
	"testing"
	"unsafe"

	"loop.example/g00678/impl"
)

// edgeNums are the numbers around each change in how many bytes they have.
func edgeNums() []int64 {
	nums := []int64{math.MinInt64, math.MinInt64 + 1, math.MaxInt64, math.MaxInt64 - 1}
	for shift := range 63 {
		for d := int64(-2); d <= 2; d++ {
			nums = append(nums, int64(1)<<shift+d, -(int64(1)<<shift)+d)
		}
	}
	return nums
}

func someNums(many int) []int64 {
	r := rand.New(rand.NewSource(1))
	var nums []int64
	for range many {
		nums = append(nums, int64(r.Uint64())>>r.Intn(64))
	}
	return nums
}

func someText(size int) string {
	r := rand.New(rand.NewSource(int64(size)))
	b := make([]byte, size)
	r.Read(b)
	return string(b)
}

func wantNum(t *testing.T, text string, at int64, want impl.NumOut) {
	t.Helper()
	if got := impl.GetNum(text, at); got != want {
		t.Errorf("GetNum of %d bytes %.24q at %d: got %+v, want %+v", len(text), text, at, got, want)
	}
}

func wantText(t *testing.T, text string, at int64, want impl.TextOut) {
	t.Helper()
	if got := impl.GetText(text, at); got != want {
		t.Errorf("GetText of %d bytes %.24q at %d: got %d bytes %.24q, At %d, Code %d; want %d bytes %.24q, At %d, Code %d", len(text), text, at, len(got.Text), got.Text, got.At, got.Code, len(want.Text), want.Text, want.At, want.Code)
	}
}

func wantUnseal(t *testing.T, text string, want impl.TextOut) {
	t.Helper()
	if got := impl.Unseal(text); got != want {
		t.Errorf("Unseal of %d bytes %.24q: got %d bytes %.24q, At %d, Code %d; want %d bytes, Code %d", len(text), text, len(got.Text), got.Text, got.At, got.Code, len(want.Text), want.Code)
	}
}

func TestPutNumWritten(t *testing.T) {
	for _, c := range []struct {
		n    int64
		want string
	}{
		{0, "\x00"}, {-1, "\x01"}, {1, "\x02"}, {-2, "\x03"},
		{63, "\x7e"}, {-64, "\x7f"}, {64, "\x80\x01"}, {-65, "\x81\x01"},
		{8191, "\xfe\x7f"}, {-8192, "\xff\x7f"}, {8192, "\x80\x80\x01"},
		{math.MaxInt64, "\xfe\xff\xff\xff\xff\xff\xff\xff\xff\x01"},
		{math.MinInt64, "\xff\xff\xff\xff\xff\xff\xff\xff\xff\x01"},
	} {
		if got := impl.PutNum(c.n); got != c.want {
			t.Errorf("PutNum(%d): got %q, want %q", c.n, got, c.want)
		}
	}
	for _, n := range append(edgeNums(), someNums(2000)...) {
		if got, want := impl.PutNum(n), string(binary.AppendVarint(nil, n)); got != want {
			t.Errorf("PutNum(%d): got %q, want %q", n, got, want)
		}
	}
}

// Promise 1, of numbers.
func TestNumComesBack(t *testing.T) {
	sizes := map[int]int{}
	for _, n := range append(edgeNums(), someNums(2000)...) {
		b := impl.PutNum(n)
		sizes[len(b)]++
		end := int64(len(b))
		wantNum(t, b, 0, impl.NumOut{N: n, At: end})
		wantNum(t, "\xff\x80"+b+"\x00\xff", 2, impl.NumOut{N: n, At: end + 2})
		pad := strings.Repeat("\x80", impl.MaxBytes-len(b))
		wantNum(t, pad+b, int64(len(pad)), impl.NumOut{N: n, At: impl.MaxBytes})
	}
	for size := 1; size <= 10; size++ {
		if sizes[size] == 0 {
			t.Errorf("no number of %d bytes was tried", size)
		}
	}
	if len(sizes) != 10 {
		t.Errorf("numbers have 1 to 10 bytes, got %v", sizes)
	}
}

func TestGetNumFaults(t *testing.T) {
	many := strings.Repeat("\x80", 9)
	ones := strings.Repeat("\xff", 9)
	over := strings.Repeat("\x00", impl.MaxBytes+1)
	for _, c := range []struct {
		text string
		at   int64
		code int64
	}{
		{over, 0, impl.ErrSize}, {over, -1, impl.ErrSize}, {over, math.MaxInt64, impl.ErrSize},
		{"\x00", -1, impl.ErrForm}, {"", -1, impl.ErrForm}, {"\x80", math.MinInt64, impl.ErrForm},
		{"", 0, impl.ErrShort}, {"\x00", 1, impl.ErrShort}, {"\x00", 2, impl.ErrShort},
		{"\x00", math.MaxInt64, impl.ErrShort}, {over[1:], impl.MaxBytes, impl.ErrShort},
		{"\x80", 0, impl.ErrShort}, {many, 0, impl.ErrShort}, {ones, 0, impl.ErrShort},
		{"\x00" + ones, 1, impl.ErrShort},
		{ones + "\x02", 0, impl.ErrSyntax}, {ones + "\x7f", 0, impl.ErrSyntax},
		{ones + "\x80", 0, impl.ErrSyntax}, {ones + "\xff", 0, impl.ErrSyntax},
		{ones + "\x81\x00", 0, impl.ErrSyntax}, {ones + "\xff\xff", 0, impl.ErrSyntax},
		{many + "\x02", 0, impl.ErrSyntax}, {many + "\x00", 0, impl.ErrSyntax},
		{"\x80\x00", 0, impl.ErrSyntax}, {"\xff\x00", 0, impl.ErrSyntax},
		{"\x81\x80\x00", 0, impl.ErrSyntax}, {"\x02\x80\x00", 1, impl.ErrSyntax},
	} {
		wantNum(t, c.text, c.at, impl.NumOut{Code: c.code})
	}
	wantNum(t, over[1:], 0, impl.NumOut{At: 1})
	wantNum(t, many+"\x01", 0, impl.NumOut{N: 1 << 62, At: 10})
	wantNum(t, ones+"\x01", 0, impl.NumOut{N: math.MinInt64, At: 10})
	wantNum(t, "\x80\x01\x80", 0, impl.NumOut{N: 64, At: 2})
}

// What GetNum takes is what PutNum wrote, and no other bytes.
func TestNumHasOneWriting(t *testing.T) {
	r := rand.New(rand.NewSource(2))
	tries := []byte{0, 1, 2, 127, 128, 129, 255}
	for range 20000 {
		b := make([]byte, r.Intn(13))
		for i := range b {
			b[i] = tries[r.Intn(len(tries))]
		}
		got := impl.GetNum(string(b), 0)
		if got.Code != impl.OK {
			if got.N != 0 || got.At != 0 {
				t.Fatalf("GetNum(%q): got %+v beside a code", b, got)
			}
			continue
		}
		if put := impl.PutNum(got.N); int64(len(put)) != got.At || put != string(b[:got.At]) {
			t.Fatalf("GetNum(%q): got %+v, but PutNum of that is %q", b, got, put)
		}
	}
}

// Promise 1, of texts.
func TestTextComesBack(t *testing.T) {
	for _, size := range []int{0, 1, 2, 63, 64, 65, 127, 128, 1000, impl.MaxBytes - 3, impl.MaxBytes - 2} {
		text := someText(size)
		b := impl.PutText(text)
		if want := impl.PutNum(int64(size)) + text; b != want {
			t.Errorf("PutText of %d bytes: got %.24q, want %.24q", size, b, want)
		}
		wantText(t, b, 0, impl.TextOut{Text: text, At: int64(len(b))})
		if size <= 1000 {
			wantText(t, "\xff\xff"+b+"more", 2, impl.TextOut{Text: text, At: int64(len(b)) + 2})
		}
		if size > 0 {
			wantText(t, b[:len(b)-1], 0, impl.TextOut{Code: impl.ErrShort})
		}
	}
}

func TestPutTextLimit(t *testing.T) {
	full := someText(impl.MaxBytes)
	b := impl.PutText(full)
	if b != "\x80\x7d"+full {
		t.Errorf("PutText of MaxBytes bytes: got %d bytes %.24q", len(b), b)
	}
	// With its length ahead of it, it is more than may be handed in.
	wantText(t, b, 0, impl.TextOut{Code: impl.ErrSize})
	if b := impl.PutText(full + "x"); b != "" {
		t.Errorf("PutText of one byte too many: got %d bytes", len(b))
	}
}

func TestGetTextFaults(t *testing.T) {
	over := strings.Repeat("\x00", impl.MaxBytes+1)
	huge := impl.PutNum(math.MaxInt64)
	for _, c := range []struct {
		text string
		at   int64
		code int64
	}{
		{over, 0, impl.ErrSize}, {over, -1, impl.ErrSize},
		{"\x04ab", -1, impl.ErrForm}, {"", -1, impl.ErrForm}, {"", math.MinInt64, impl.ErrForm},
		{"", 0, impl.ErrShort}, {"\x04ab", 3, impl.ErrShort}, {"\x04ab", 4, impl.ErrShort},
		{"\x04ab", math.MaxInt64, impl.ErrShort},
		{"\x80", 0, impl.ErrShort}, {"\x04", 0, impl.ErrShort}, {"\x04a", 0, impl.ErrShort},
		{"xx\x04a", 2, impl.ErrShort}, {impl.PutNum(impl.MaxBytes), 0, impl.ErrShort},
		{impl.PutNum(impl.MaxBytes) + over[3:], 0, impl.ErrShort},
		{"\x84\x00ab", 0, impl.ErrSyntax}, {"\x80\x00", 0, impl.ErrSyntax},
		{strings.Repeat("\xff", 10), 0, impl.ErrSyntax},
		{"\x01", 0, impl.ErrSyntax}, {"\x01ab", 0, impl.ErrSyntax}, {"\x03abc", 0, impl.ErrSyntax},
		{impl.PutNum(math.MinInt64) + "a", 0, impl.ErrSyntax}, {huge, 0, impl.ErrSyntax},
		{huge + "abc", 0, impl.ErrSyntax}, {impl.PutNum(impl.MaxBytes + 1), 0, impl.ErrSyntax},
		{impl.PutNum(impl.MaxBytes+1) + over[3:], 0, impl.ErrSyntax},
	} {
		wantText(t, c.text, c.at, impl.TextOut{Code: c.code})
	}
	wantText(t, "\x00", 0, impl.TextOut{At: 1})
	wantText(t, "\x04ab", 0, impl.TextOut{Text: "ab", At: 3})
	wantText(t, "\x04\x02\x04", 1, impl.TextOut{Text: "\x04", At: 3})
}

func TestNameRight(t *testing.T) {
	for _, name := range []string{"a", "z", "a0", "z9_", "a_", "abcdefghijklmnopqrst", "uvwxyz0123456789_a_b"} {
		if !impl.NameRight(name) {
			t.Errorf("NameRight(%q): got false", name)
		}
	}
	for _, name := range []string{"", "_", "_a", "0", "9a", "A", "aB", "a b", "a-", "a\x00", "\xff", "aé", "a/", "a:", "a`", "a{", "`a", "{a", "abcdefghijklmnopqrstu", strings.Repeat("a", impl.MaxBytes+1)} {
		if impl.NameRight(name) {
			t.Errorf("NameRight(%.24q): got true", name)
		}
	}
	for b := range 256 {
		letter := b >= 'a' && b <= 'z'
		other := b >= '0' && b <= '9' || b == '_'
		c := string([]byte{byte(b)})
		if impl.NameRight(c) != letter || impl.NameRight("a"+c+"a") != (letter || other) {
			t.Errorf("NameRight with the byte %d: got %v first, %v later", b, impl.NameRight(c), impl.NameRight("a"+c+"a"))
		}
	}
}

func TestCrc(t *testing.T) {
	for _, c := range []struct {
		text string
		want int64
	}{{"", 0}, {"123456789", 0xCBF43926}, {"a", 0xE8B7BE43}, {"\x00", 0xD202EF8D}, {"\xff\xff\xff\xff", 0xFFFFFFFF}} {
		if got := impl.Crc(c.text); got != c.want {
			t.Errorf("Crc(%q): got %x, want %x", c.text, got, c.want)
		}
	}
	for _, size := range []int{1, 2, 3, 4, 5, 100, impl.MaxBytes - 1, impl.MaxBytes} {
		text := someText(size)
		if got, want := impl.Crc(text), int64(crc32.ChecksumIEEE([]byte(text))); got != want {
			t.Errorf("Crc of %d bytes: got %x, want %x", size, got, want)
		}
	}
	if got := impl.Crc(someText(impl.MaxBytes + 1)); got != 0 {
		t.Errorf("Crc of one byte too many: got %x", got)
	}
}

// Promise 2, of the CRC.
func TestCrcGoesOn(t *testing.T) {
	whole := someText(300)
	for cut := range len(whole) + 1 {
		if got, want := impl.CrcMore(impl.Crc(whole[:cut]), whole[cut:]), impl.Crc(whole); got != want {
			t.Errorf("CrcMore behind %d bytes: got %x, want %x", cut, got, want)
		}
	}
	// What both are together may be longer than a text that is handed in.
	full := someText(impl.MaxBytes)
	if got, want := impl.CrcMore(impl.Crc(full), full), int64(crc32.ChecksumIEEE([]byte(full+full))); got != want {
		t.Errorf("CrcMore of MaxBytes behind as many: got %x, want %x", got, want)
	}
	for _, crc := range []int64{0, 1, 1 << 31, 1<<32 - 1} {
		if got := impl.CrcMore(crc, ""); got != crc {
			t.Errorf("CrcMore(%d, \"\"): got %d", crc, got)
		}
		if got, want := impl.CrcMore(crc, "ab"), int64(crc32.Update(uint32(crc), crc32.IEEETable, []byte("ab"))); got != want {
			t.Errorf("CrcMore(%d, \"ab\"): got %x, want %x", crc, got, want)
		}
	}
}

func TestCrcMoreRefused(t *testing.T) {
	for _, crc := range []int64{-1, 1 << 32, 1<<32 + 5, math.MinInt64, math.MaxInt64} {
		for _, text := range []string{"", "ab"} {
			if got := impl.CrcMore(crc, text); got != 0 {
				t.Errorf("CrcMore(%d, %q): got %x, want 0", crc, text, got)
			}
		}
	}
	if got := impl.CrcMore(5, someText(impl.MaxBytes+1)); got != 0 {
		t.Errorf("CrcMore of one byte too many: got %x, want 0", got)
	}
}

// Promise 2, of what is whole.
func TestSealComesBack(t *testing.T) {
	for _, size := range []int{0, 1, 2, 3, 4, 5, 100, impl.MaxBytes - 5, impl.MaxBytes - 4} {
		text := someText(size)
		want := string(binary.LittleEndian.AppendUint32([]byte(text), crc32.ChecksumIEEE([]byte(text))))
		got := impl.Seal(text)
		if got != want {
			t.Errorf("Seal of %d bytes: got %d bytes", size, len(got))
		}
		wantUnseal(t, got, impl.TextOut{Text: text})
	}
	if got := impl.Seal("123456789"); got != "123456789\x26\x39\xf4\xcb" {
		t.Errorf("Seal: got %q", got)
	}
	for _, size := range []int{impl.MaxBytes - 3, impl.MaxBytes, impl.MaxBytes + 1} {
		if got := impl.Seal(someText(size)); got != "" {
			t.Errorf("Seal of %d bytes: got %d bytes, want none", size, len(got))
		}
	}
}

// Promise 2, of what is turned.
func TestSealTurnedIsRefused(t *testing.T) {
	for _, size := range []int{0, 1, 4, 30} {
		sealed := impl.Seal(someText(size))
		for at := range len(sealed) {
			for turn := 1; turn < 256; turn++ {
				b := []byte(sealed)
				b[at] ^= byte(turn)
				wantUnseal(t, string(b), impl.TextOut{Code: impl.ErrSum})
			}
		}
	}
	full := impl.Seal(someText(impl.MaxBytes - 4))
	for at := 0; at < len(full); at += 101 {
		b := []byte(full)
		b[at] ^= 1
		wantUnseal(t, string(b), impl.TextOut{Code: impl.ErrSum})
	}
}

func TestUnsealFaults(t *testing.T) {
	for size := range 4 {
		wantUnseal(t, strings.Repeat("\x00", size), impl.TextOut{Code: impl.ErrShort})
	}
	wantUnseal(t, "\x00\x00\x00\x00", impl.TextOut{})
	wantUnseal(t, "\x00\x00\x00\x01", impl.TextOut{Code: impl.ErrSum})
	wantUnseal(t, "123456789\xcb\xf4\x39\x26", impl.TextOut{Code: impl.ErrSum})
	wantUnseal(t, impl.Seal("ab")+"\x00", impl.TextOut{Code: impl.ErrSum})
	wantUnseal(t, "x"+impl.Seal("ab"), impl.TextOut{Code: impl.ErrSum})
	wantUnseal(t, impl.Seal("ab")[:5], impl.TextOut{Code: impl.ErrSum})
	wantUnseal(t, someText(impl.MaxBytes), impl.TextOut{Code: impl.ErrSum})
	wantUnseal(t, someText(impl.MaxBytes+1), impl.TextOut{Code: impl.ErrSize})
	body := someText(impl.MaxBytes - 3)
	over := string(binary.LittleEndian.AppendUint32([]byte(body), crc32.ChecksumIEEE([]byte(body))))
	wantUnseal(t, over, impl.TextOut{Code: impl.ErrSize})
}

func shareMemory(a string, b string) bool {
	if a == "" || b == "" {
		return false
	}
	first, second := uintptr(unsafe.Pointer(unsafe.StringData(a))), uintptr(unsafe.Pointer(unsafe.StringData(b)))
	return first < second+uintptr(len(b)) && second < first+uintptr(len(a))
}

func TestBytesAnswersAreNewMemory(t *testing.T) {
	text := someText(50)
	put, sealed := impl.PutText(text), impl.Seal(text)
	for what, shared := range map[string]bool{
		"PutText": shareMemory(put, text),
		"GetText": shareMemory(impl.GetText(put, 0).Text, put),
		"Seal":    shareMemory(sealed, text),
		"Unseal":  shareMemory(impl.Unseal(sealed).Text, sealed),
	} {
		if shared {
			t.Errorf("%s: the answer shares memory with the argument", what)
		}
	}
}
