package mission_test

import (
	"math/rand"
	"slices"
	"strings"
	"testing"

	"windhover/api"
	"windhover/mission"
)

// encode is Encode of a mission that is sound.
func encode(t *testing.T, items []api.MissionItem) string {
	t.Helper()
	data, e := mission.Encode(items)
	if e != api.OK {
		t.Fatalf("Encode(%v): %d", items, int(e))
	}
	return data
}

// written is the document's bytes of a mission, sound or not.
func written(items []api.MissionItem) string {
	var b strings.Builder
	b.WriteByte(byte(len(items)))
	for _, m := range items {
		b.WriteByte(byte(m.Kind))
		for _, x := range []int{m.A, m.B, m.C} {
			word := (x%(1<<32) + 1<<32) % (1 << 32)
			for _, part := range []int{1 << 24, 1 << 16, 1 << 8, 1} {
				b.WriteByte(byte(word / part % 256))
			}
		}
	}
	return b.String()
}

// decode holds Decode against what is asked for; with an error there is no item.
func decode(t *testing.T, data string, want []api.MissionItem, e api.Errno) {
	t.Helper()
	items, got := mission.Decode(data)
	if e != api.OK {
		want = nil
	}
	if got != e || !slices.Equal(items, want) {
		t.Errorf("Decode(%x) = %v, %d; asked for: %v, %d", data, items, int(got), want, int(e))
	}
}

// P19.2: the row of 'Examples', and bytes written by hand.
func TestEncodeByHand(t *testing.T) {
	zeros := strings.Repeat("\x00", 12)
	for _, c := range []struct {
		items []api.MissionItem
		want  string
	}{
		{nil, "\x00"}, {[]api.MissionItem{}, "\x00"},
		{list([4]int{land}), "\x01\x06" + zeros}, {list([4]int{home}), "\x01\x07" + zeros},
		{list([4]int{takeoff, 120000, 0, 0}), "\x01\x01\x00\x01\xd4\xc0" + zeros[:8]},
		{list([4]int{waypoint, -1, -2, 3}), "\x01\x02\xff\xff\xff\xff\xff\xff\xff\xfe\x00\x00\x00\x03"},
		{list([4]int{waypoint, end, -end, 258}), "\x01\x02\x20\x00\x00\x00\xe0\x00\x00\x00\x00\x00\x01\x02"},
		{list([4]int{waypoint, 0x01020304, -0x01020304, 0}), "\x01\x02\x01\x02\x03\x04\xfe\xfd\xfc\xfc\x00\x00\x00\x00"},
		{list([4]int{loiter, 1000000, 0, 0}, [4]int{jump, 1, 255, 0}, [4]int{speed, 64000, 0, 0}), "\x03\x03\x00\x0f\x42\x40" + zeros[:8] + "\x04\x00\x00\x00\x01\x00\x00\x00\xff" + zeros[:4] + "\x05\x00\x00\xfa\x00" + zeros[:8]},
	} {
		if data := encode(t, c.items); data != c.want || written(c.items) != c.want {
			t.Errorf("Encode(%v) = %x; asked for: %x", c.items, data, c.want)
		}
		decode(t, c.want, c.items, api.OK)
	}
}

// P19.2: how many bytes there are, by how many items.
func TestEncodeLong(t *testing.T) {
	for n := range 65 {
		data := encode(t, times(n, [4]int{loiter, n, 0, 0}))
		if len(data) != 1+13*n || int(data[0]) != n {
			t.Errorf("%d items: %d bytes", n, len(data))
		}
	}
}

// P19.2: each error of Check, and no byte beside it.
func TestEncodeRefuses(t *testing.T) {
	for i, c := range wrongs() {
		if data, e := mission.Encode(c.items); data != "" || e != c.e {
			t.Errorf("%d: %x, %d", i, data, int(e))
		}
	}
}

// P19.2: each number of each kind at its ends and beside them.
func TestEncodeNumbers(t *testing.T) {
	for kind := takeoff; kind <= home; kind++ {
		may, _ := table(kind)
		if kind == jump {
			may[0] = [2]int{0, 1}
		}
		for place, ends := range may {
			for _, x := range numbersOf(ends[0], ends[1]) {
				row := [4]int{kind, may[0][1], may[1][1], may[2][1]}
				row[1+place] = x
				items := list(row, [4]int{land})
				data, e := mission.Encode(items)
				if want := checked(items); e != want || (e == api.OK) != (data == written(items)) || e != api.OK && data != "" {
					t.Errorf("Encode(%v) = %x, %d", items, data, int(e))
				}
			}
		}
	}
}

// P19.3: bytes of a wrong size: the empty text, one byte, too few and too many.
func TestDecodeSizes(t *testing.T) {
	decode(t, "", nil, api.ErrSize)
	decode(t, "\x00", nil, api.OK)
	for first := 1; first < 256; first++ {
		decode(t, string([]byte{byte(first)}), nil, api.ErrSize)
	}
	for _, n := range []int{0, 1, 2, 63, 64, 65, 255} {
		data := written(times(n, [4]int{land}))
		decode(t, data[:len(data)-1], nil, api.ErrSize)
		decode(t, data+"\x00", nil, api.ErrSize)
		decode(t, data+"\x06", nil, api.ErrSize)
		decode(t, data+strings.Repeat("\x06", 13), nil, api.ErrSize)
		if n > 0 {
			decode(t, data[:len(data)-13], nil, api.ErrSize)
			decode(t, data[1:], nil, api.ErrSize)
		}
	}
	// 256 items and more would be as many as their number modulo 256, if that were asked.
	for _, n := range []int{256, 257, 320} {
		decode(t, written(times(n, [4]int{land})), nil, api.ErrSize)
	}
	full := written(times(3, [4]int{land}))
	for n := range 60 {
		data := strings.Repeat("\x03", 60)[:n]
		if n != 40 {
			decode(t, data, nil, api.ErrSize)
		}
		if n < 40 {
			decode(t, full[:n], nil, api.ErrSize)
		}
	}
}

// P19.3: a size that is wrong is told ahead of items that are.
func TestDecodeSizeFirst(t *testing.T) {
	for _, c := range wrongs() {
		if len(c.items) < 256 {
			data := written(c.items)
			decode(t, data, nil, c.e)
			decode(t, data[:len(data)-1], nil, api.ErrSize)
			decode(t, data+"\x00", nil, api.ErrSize)
		}
	}
}

// P19.3: more than 64 items, as their bytes may be.
func TestDecodeMany(t *testing.T) {
	decode(t, written(times(64, [4]int{land})), times(64, [4]int{land}), api.OK)
	for n := 65; n < 256; n++ {
		decode(t, written(times(n, [4]int{land})), nil, api.ErrMany)
		decode(t, written(times(n, [4]int{})), nil, api.ErrMany)
	}
}

// P19.3: kinds and numbers that Check refuses, in the first, in the last and in the only item, and a jump that leads nowhere.
func TestDecodeRefuses(t *testing.T) {
	good := [4]int{waypoint, -5, 6, 7}
	for _, c := range []struct {
		row [4]int
		e   api.Errno
	}{
		{[4]int{}, 191}, {[4]int{8}, 191}, {[4]int{255}, 191}, {[4]int{takeoff, 0, 0, 0}, 191}, {[4]int{takeoff, -1, 0, 0}, 191}, {[4]int{takeoff, 120001, 0, 0}, 191}, {[4]int{takeoff, 9, 0, 1}, 191}, {[4]int{takeoff, 9, -1, 0}, 191},
		{[4]int{waypoint, end + 1, 0, 0}, 191}, {[4]int{waypoint, -end - 1, 0, 0}, 191}, {[4]int{waypoint, 0, 1<<31 - 1, 0}, 191}, {[4]int{waypoint, 0, -1 << 31, 0}, 191}, {[4]int{waypoint, 0, 0, -1}, 191}, {[4]int{waypoint, 0, 0, 120001}, 191},
		{[4]int{loiter, -1, 0, 0}, 191}, {[4]int{loiter, 1000001, 0, 0}, 191}, {[4]int{jump, 0, 256, 0}, 191}, {[4]int{jump, 0, -1, 0}, 191}, {[4]int{jump, 0, 1, -1}, 191}, {[4]int{jump, -1, 256, 0}, 191},
		{[4]int{speed, 1599, 0, 0}, 191}, {[4]int{speed, 64001, 0, 0}, 191}, {[4]int{land, 1, 0, 0}, 191}, {[4]int{land, 0, -1, 0}, 191}, {[4]int{home, 0, 0, 1}, 191},
		{[4]int{jump, -1, 0, 0}, 190}, {[4]int{jump, 4, 0, 0}, 190}, {[4]int{jump, 1<<31 - 1, 0, 0}, 190}, {[4]int{jump, -1 << 31, 0, 0}, 190},
	} {
		decode(t, written(list(c.row)), nil, c.e)
		decode(t, written(list(c.row, good, good, good)), nil, c.e)
		decode(t, written(list(good, good, good, c.row)), nil, c.e)
	}
	decode(t, written(list(good, [4]int{jump, 2, 1, 0})), nil, api.ErrJump)
	decode(t, written(list([4]int{jump, 2, 1, 0}, [4]int{speed, 1, 0, 0})), nil, api.ErrJump)
	decode(t, written(list([4]int{speed, 1, 0, 0}, [4]int{jump, 2, 1, 0})), nil, api.ErrItem)
}

// P19.8: Decode of Encode is the mission, for missions of all lengths.
func TestWrittenIsRead(t *testing.T) {
	r := rand.New(rand.NewSource(193))
	for i := range 6000 {
		items := soundMission(r, i%65)
		data := encode(t, items)
		if data != written(items) {
			t.Fatalf("Encode(%v) = %x", items, data)
		}
		decode(t, data, items, api.OK)
	}
}

// P19.8: what is read is written as it was, whatever byte of a mission is another one.
func TestReadIsWritten(t *testing.T) {
	r := rand.New(rand.NewSource(194))
	for i := range 300 {
		data := []byte(encode(t, soundMission(r, 1+i%5)))
		read := 0
		for k := range data {
			for _, other := range []byte{0, 1, 2, 3, 4, 5, 6, 7, 8, 0x20, 0x7f, 0x80, 0xe0, 0xff, data[k] + 1, data[k] - 1} {
				changed := slices.Clone(data)
				changed[k] = other
				items, e := mission.Decode(string(changed))
				if e != api.OK {
					if len(items) != 0 {
						t.Fatal(items, int(e))
					}
					continue
				}
				read++
				if again := encode(t, items); again != string(changed) || written(items) != again {
					t.Fatalf("%x is written as %x", changed, again)
				}
			}
		}
		if read == 0 {
			t.Fatalf("nothing of %x was read", data)
		}
	}
}

// R1, P19.3: any bytes at all.
func TestDecodeAnyBytes(t *testing.T) {
	r := rand.New(rand.NewSource(195))
	for range 30000 {
		data := make([]byte, r.Intn(40))
		for k := range data {
			if r.Intn(2) == 0 {
				data[k] = byte(r.Intn(9))
			} else {
				data[k] = byte(r.Intn(256))
			}
		}
		items, e := mission.Decode(string(data))
		if sized := len(data) > 0 && len(data) == 1+13*int(data[0]); sized == (e == api.ErrSize) || e != api.OK && len(items) != 0 {
			t.Fatalf("%x: %v, %d", data, items, int(e))
		}
		if e == api.OK && encode(t, items) != string(data) {
			t.Fatalf("%x", data)
		}
	}
}

// rowsOf are a mission's rows, as they come over the link.
func rowsOf(items []api.MissionItem) [][]int {
	var rows [][]int
	for _, m := range items {
		rows = append(rows, []int{int(m.Kind), m.A, m.B, m.C, 0})
	}
	return rows
}

// of holds Of against what is asked for; with an error there is no item.
func of(t *testing.T, rows [][]int, want []api.MissionItem, e api.Errno) {
	t.Helper()
	items, got := mission.Of(rows)
	if e != api.OK {
		want = nil
	}
	if got != e || !slices.Equal(items, want) {
		t.Errorf("Of(%v) = %v, %d; asked for: %v, %d", rows, items, int(got), want, int(e))
	}
}

// P19.4: the rows of 'Examples', and missions that are read.
func TestOf(t *testing.T) {
	of(t, [][]int{{5, 1600, 0, 0, 1}}, nil, api.ErrItem)
	of(t, [][]int{{5, 1600, 0, 0}}, nil, api.ErrItem)
	of(t, [][]int{{5, 1600, 0, 0, 0}}, list([4]int{speed, 1600, 0, 0}), api.OK)
	of(t, nil, nil, api.OK)
	of(t, [][]int{}, nil, api.OK)
	of(t, [][]int{{1, 2000, 0, 0, 0}, {2, -1, 2, 3, 0}, {3, 4, 0, 0, 0}, {4, 1, 2, 0, 0}, {7, 0, 0, 0, 0}},
		list([4]int{takeoff, 2000, 0, 0}, [4]int{waypoint, -1, 2, 3}, [4]int{loiter, 4, 0, 0}, [4]int{jump, 1, 2, 0}, [4]int{home}), api.OK)
	r := rand.New(rand.NewSource(196))
	for i := range 3000 {
		items := soundMission(r, i%65)
		of(t, rowsOf(items), items, api.OK)
	}
}

// P19.4: rows of another length than five.
func TestOfLengths(t *testing.T) {
	good := []int{land, 0, 0, 0, 0}
	for n := range 12 {
		row := make([]int, n)
		if n > 0 {
			row[0] = land
		}
		want := api.ErrItem
		if n == 5 {
			want = api.OK
		}
		of(t, [][]int{row}, list([4]int{land}), want)
		of(t, [][]int{good, row}, list([4]int{land}, [4]int{land}), want)
		of(t, [][]int{row, good}, list([4]int{land}, [4]int{land}), want)
	}
	of(t, [][]int{nil}, nil, api.ErrItem)
	of(t, [][]int{good, nil}, nil, api.ErrItem)
	// What lies behind a row's length is not read.
	long := []int{land, 0, 0, 0, 0, 7, 7}
	of(t, [][]int{long[:5]}, list([4]int{land}), api.OK)
	of(t, [][]int{long[:4]}, nil, api.ErrItem)
}

// P19.4: first numbers of all sizes; none is cut off to a kind.
func TestOfKinds(t *testing.T) {
	for _, kind := range append(edges(), 0, 1, 2, 3, 4, 5, 6, 7, 8, 9, 255, 256, 257, 262, 263, 264, 256*256+6, 1<<32+6, 1<<62+6, -250, -249, least+6, least+7) {
		for _, a := range []int{0, 5, 1600} {
			e := api.ErrItem
			var want []api.MissionItem
			if kind >= 1 && kind <= 7 {
				want = list([4]int{kind, a, 0, 0})
				e = checked(want)
			}
			of(t, [][]int{{kind, a, 0, 0, 0}}, want, e)
		}
	}
}

// P19.4: a fifth number that is not 0.
func TestOfFifth(t *testing.T) {
	for _, d := range edges() {
		for _, row := range [][4]int{{takeoff, 5}, {waypoint, 1, 2, 3}, {loiter, 3}, {jump, 0, 2}, {speed, 2000}, {land}, {home}} {
			want, behind := api.ErrItem, api.ErrItem
			if d == 0 {
				want, behind = api.OK, api.ErrJump
			}
			of(t, [][]int{append(row[:], d)}, list(row), want)
			of(t, [][]int{{land, 0, 0, 0, 0}, append(row[:], d)}, list([4]int{land}, row), want)
			// It is asked of ahead of what Check asks of the row in front.
			of(t, [][]int{{jump, 9, 0, 0, 0}, append(row[:], d)}, nil, behind)
		}
	}
}

// P19.4: all rows are looked at ahead of Check: behind an item that Check refuses, and behind more than 64 of them.
func TestOfOrder(t *testing.T) {
	good, nowhere := []int{land, 0, 0, 0, 0}, []int{jump, 9, 0, 0, 0}
	bad := [][]int{{}, nil, {land}, {land, 0, 0, 0}, {land, 0, 0, 0, 0, 0}, {0, 0, 0, 0, 0}, {8, 0, 0, 0, 0}, {257, 1, 0, 0, 0}, {land, 0, 0, 0, 1}, {land, 0, 0, 0, -1}, {least, 0, 0, 0, 0}}
	many := slices.Repeat([][]int{good}, 65)
	of(t, [][]int{good, nowhere}, nil, api.ErrJump)
	of(t, many[:64], times(64, [4]int{land}), api.OK)
	of(t, many, nil, api.ErrMany)
	of(t, slices.Repeat([][]int{nowhere}, 65), nil, api.ErrMany)
	of(t, slices.Repeat([][]int{good}, 1000), nil, api.ErrMany)
	for _, row := range bad {
		of(t, [][]int{row}, nil, api.ErrItem)
		of(t, [][]int{good, row}, nil, api.ErrItem)
		of(t, [][]int{row, good}, nil, api.ErrItem)
		of(t, [][]int{nowhere, row}, nil, api.ErrItem)
		of(t, [][]int{row, nowhere}, nil, api.ErrItem)
		of(t, append(slices.Clone(many), row), nil, api.ErrItem)
		of(t, append([][]int{row}, many...), nil, api.ErrItem)
	}
}

// P19.4: each error of Check, and numbers at an int's ends.
func TestOfRefuses(t *testing.T) {
	for _, c := range wrongs() {
		want := c.e
		for _, m := range c.items {
			if m.Kind < 1 || m.Kind > 7 {
				want = api.ErrItem
			}
		}
		of(t, rowsOf(c.items), nil, want)
	}
	for kind := takeoff; kind <= home; kind++ {
		for _, x := range edges() {
			for place := range 3 {
				row := [4]int{kind}
				row[1+place] = x
				items := list(row)
				of(t, rowsOf(items), items, checked(items))
			}
		}
	}
	r := rand.New(rand.NewSource(197))
	for range 20000 {
		items := list([4]int{1 + r.Intn(7), any64(r), any64(r), any64(r)}, [4]int{1 + r.Intn(7), any64(r), 0, 0})
		of(t, rowsOf(items), items, checked(items))
	}
}

// R2: what comes out is new memory each time, and what was handed in is neither written nor kept.
func TestListsApart(t *testing.T) {
	items := list([4]int{takeoff, 2000, 0, 0}, [4]int{waypoint, 1, 2, 3}, [4]int{jump, 0, 1, 0})
	data := encode(t, items)
	a, _ := mission.Decode(data)
	b, _ := mission.Decode(data)
	for i := range a[:cap(a)] {
		a[:cap(a)][i] = item([4]int{9, 9, 9, 9})
	}
	if !slices.Equal(b, items) {
		t.Error(b)
	}
	decode(t, data, items, api.OK)

	rows := rowsOf(items)
	spare := append(rows, []int{1}, nil)
	c, e := mission.Of(rows)
	d, _ := mission.Of(rows)
	if e != api.OK || len(spare[3]) != 1 || spare[4] != nil || !slices.EqualFunc(rows, rowsOf(items), slices.Equal) {
		t.Fatal(int(e), spare)
	}
	for i := range c[:cap(c)] {
		c[:cap(c)][i] = item([4]int{9, 9, 9, 9})
	}
	for _, row := range rows {
		row[1] = 77
	}
	if !slices.Equal(d, items) {
		t.Error(d)
	}
}
