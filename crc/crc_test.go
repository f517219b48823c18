package crc_test

import (
	"math/rand"
	"strings"
	"testing"

	"windhover/crc"
)

// reckonAdd goes on by a byte, bit by bit, by the document's words.
func reckonAdd(c uint16, b byte) uint16 {
	c ^= uint16(b)
	for range 8 {
		low := c & 1
		c >>= 1
		if low == 1 {
			c ^= 0x8408
		}
	}
	return c
}

// reckonSum is a row's sum, by the document's words.
func reckonSum(data string) uint16 {
	c := uint16(0xffff)
	for _, b := range []byte(data) {
		c = reckonAdd(c, b)
	}
	return c
}

// pair is a number's low byte and its high byte.
func pair(n uint16) string {
	return string([]byte{byte(n), byte(n >> 8)})
}

// row is n bytes at random.
func row(r *rand.Rand, n int) string {
	list := make([]byte, n)
	for i := range list {
		list[i] = byte(r.Intn(256))
	}
	return string(list)
}

// rows are what the tests of whole rows go through: short ones, texts that are no UTF-8, long ones, and any at random.
func rows() []string {
	list := []string{
		"", "\x00", "\xff", "\x00\x00", "\xff\xff", "a", "123456789", "windhover",
		"\u00e4\u20ac\U0001f681", "\xc3", "\xe2\x82", "\x80\x81\xfe",
		strings.Repeat("\x00", 300), strings.Repeat("\xff", 300), strings.Repeat("hover", 1<<16),
	}
	r := rand.New(rand.NewSource(3))
	for n := range 200 {
		list = append(list, row(r, n))
	}
	return list
}

// P3.1, P3.2: the rows of the chapter's 'Examples'.
func TestExamples(t *testing.T) {
	for _, e := range []struct {
		name      string
		got, want uint16
	}{
		{"Sum of nothing", crc.Sum(""), 0xffff},
		{"Add(FFFF, 00)", crc.Add(0xffff, 0x00), 0x0f87},
		{"Add(0, 01)", crc.Add(0, 0x01), 0x1189},
		{"Sum of 123456789", crc.Sum("123456789"), 0x6f91},
	} {
		if e.got != e.want {
			t.Errorf("%s: %04X, not %04X", e.name, e.got, e.want)
		}
	}
}

// P3.1: of every number and every byte.
func TestAddEverywhere(t *testing.T) {
	for c := range 1 << 16 {
		for b := range 1 << 8 {
			got, want := crc.Add(uint16(c), byte(b)), reckonAdd(uint16(c), byte(b))
			if got != want {
				t.Fatalf("Add(%04X, %02X): %04X, not %04X", c, b, got, want)
			}
		}
	}
}

// P3.1: the lowest bit is 0 at each of the eight steps, 1 at one of them or at some, and 1 at each (the last row).
func TestAddLowestBit(t *testing.T) {
	for _, e := range []struct {
		c    uint16
		b    byte
		want uint16
	}{
		{0x0000, 0x00, 0x0000},
		{0x00a5, 0xa5, 0x0000},
		{0x0100, 0x00, 0x0001},
		{0xff00, 0x00, 0x00ff},
		{0x8000, 0x00, 0x0080},
		{0x0000, 0x80, 0x8408},
		{0x0080, 0x00, 0x8408},
		{0x0000, 0x40, 0x4204},
		{0x0000, 0x10, 0x1081},
		{0x0000, 0x01, 0x1189},
		{0x0001, 0x00, 0x1189},
		{0x0000, 0x0f, 0xf8f7},
	} {
		if got := crc.Add(e.c, e.b); got != e.want {
			t.Errorf("Add(%04X, %02X): %04X, not %04X", e.c, e.b, got, e.want)
		}
	}
}

// P3.2: each byte counts once, from the first one to the last one.
func TestSumOfRows(t *testing.T) {
	for _, data := range rows() {
		if got, want := crc.Sum(data), reckonSum(data); got != want {
			t.Errorf("%d bytes: %04X, not %04X", len(data), got, want)
		}
	}
	if crc.Sum("ab") == crc.Sum("ba") {
		t.Error("the order of two bytes is lost")
	}
	if crc.Sum("\x00") == crc.Sum("") {
		t.Error("a byte of noughts is lost")
	}
}

// P3.2: of every row of one byte and of two bytes.
func TestSumOfShortRows(t *testing.T) {
	for n := range 1 << 16 {
		one, two := string([]byte{byte(n)}), pair(uint16(n))
		if got, want := crc.Sum(one), reckonSum(one); got != want {
			t.Fatalf("% X: %04X, not %04X", one, got, want)
		}
		if got, want := crc.Sum(two), reckonSum(two); got != want {
			t.Fatalf("% X: %04X, not %04X", two, got, want)
		}
	}
}

// P3.3: rows one behind the other, cut at each place, both ends among them.
func TestSumGoesOn(t *testing.T) {
	data := row(rand.New(rand.NewSource(33)), 150)
	for cut := range len(data) + 1 {
		c := crc.Sum(data[:cut])
		for _, b := range []byte(data[cut:]) {
			c = crc.Add(c, b)
		}
		if want := crc.Sum(data); c != want {
			t.Errorf("cut at %d: %04X, not %04X", cut, c, want)
		}
	}
}

// P3.3: a row that ends in its own Sum's low byte and high byte has the Sum 0; in another order, or with any other end, it has not.
func TestSumOfItsOwn(t *testing.T) {
	for _, data := range rows() {
		s := crc.Sum(data)
		if got := crc.Sum(data + pair(s)); got != 0 {
			t.Errorf("%d bytes and their Sum: %04X", len(data), got)
		}
		if turned := s<<8 | s>>8; turned != s && crc.Sum(data+pair(turned)) == 0 {
			t.Errorf("%d bytes and their Sum, its high byte first: 0", len(data))
		}
	}
	s := crc.Sum("windhover")
	for n := range 1 << 16 {
		if got := crc.Sum("windhover" + pair(uint16(n))); (got == 0) != (uint16(n) == s) {
			t.Fatalf("windhover and %04X: %04X", n, got)
		}
	}
}

// P3.3: of one c unlike bytes lead to unlike numbers.
func TestAddKeepsBytesApart(t *testing.T) {
	for c := range 1 << 16 {
		seen := make(map[uint16]bool, 1<<8)
		for b := range 1 << 8 {
			seen[crc.Add(uint16(c), byte(b))] = true
		}
		if len(seen) != 1<<8 {
			t.Fatalf("%04X: %d numbers of 256 bytes", c, len(seen))
		}
	}
}

// P3.3: of one byte unlike c lead to unlike numbers.
func TestAddKeepsNumbersApart(t *testing.T) {
	for b := range 1 << 8 {
		seen := make([]bool, 1<<16)
		for c := range 1 << 16 {
			n := crc.Add(uint16(c), byte(b))
			if seen[n] {
				t.Fatalf("%02X: %04X twice", b, n)
			}
			seen[n] = true
		}
	}
}

// P3.3: rows that differ in one byte alone, at each place.
func TestOneByteApart(t *testing.T) {
	data := row(rand.New(rand.NewSource(333)), 66)
	for at := range len(data) {
		seen := make([]bool, 1<<16)
		for b := range 1 << 8 {
			s := crc.Sum(data[:at] + string([]byte{byte(b)}) + data[at+1:])
			if seen[s] {
				t.Fatalf("place %d: %04X twice", at, s)
			}
			seen[s] = true
		}
	}
}

// P3.3: rows that differ in two neighbours alone (or in one of them), at each place.
func TestTwoNeighboursApart(t *testing.T) {
	data := row(rand.New(rand.NewSource(3333)), 12)
	for at := range len(data) - 1 {
		seen := make([]bool, 1<<16)
		for n := range 1 << 16 {
			s := crc.Sum(data[:at] + pair(uint16(n)) + data[at+2:])
			if seen[s] {
				t.Fatalf("places %d and %d: %04X twice", at, at+1, s)
			}
			seen[s] = true
		}
	}
}

// R2: an answer hangs on its bytes alone: not on calls ahead of it, nor on what lies around them.
func TestAnswersHangOnBytesAlone(t *testing.T) {
	around := "xx123456789yy"
	for range 3 {
		if got := crc.Sum(around[2:11]); got != 0x6f91 {
			t.Errorf("%04X", got)
		}
		if got := crc.Sum(around[5:5]); got != 0xffff {
			t.Errorf("%04X", got)
		}
		crc.Add(crc.Sum(around), 7)
	}
}
