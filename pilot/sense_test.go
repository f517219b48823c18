package pilot_test

import (
	"strings"
	"testing"

	"windhover/api"
)

// P24.3: no frame, a bad one, several on a port: the last good one counts, and bad ones are counted.
func TestPorts(t *testing.T) {
	r := setup{}.rig(t)
	r.still = true
	r.run(1)
	r.w.P = [3]int{6400 * 9000, 0, 0}
	bad := 0
	for _, row := range []struct {
		name  string
		alter func(in *api.Inputs)
		bad   int
	}{
		{"nothing", func(*api.Inputs) {}, 0},
		{"a lone A5", func(in *api.Inputs) { in.Gnss[1] = "\xa5" }, 1},
		{"two lone ones behind", func(in *api.Inputs) { in.Imu[2] += "\xa5\xa5" }, 2},
		{"ahead", func(in *api.Inputs) { in.Baro[0] = "\xa5\xff" + in.Baro[0] }, 1},
		{"of another sensor", func(in *api.Inputs) { in.Baro[0] = in.Gnss[0] }, 1},
		{"a byte turned", func(in *api.Inputs) { in.Esc = in.Esc[:3] + "\x55" + in.Esc[4:] }, 1},
		{"remote control", func(in *api.Inputs) { in.Rc = "\xa5\x04\x00" }, 1},
		{"all ports", func(in *api.Inputs) {
			for i := range 3 {
				in.Imu[i], in.Baro[i], in.Gnss[i] = "\xa5", "\xa5", "\xa5"
			}
			in.Rc, in.Esc = "\xa5", "\xa5"
		}, 11},
		{"other bytes", func(in *api.Inputs) { in.Rc, in.Esc = "nothing", in.Esc+"at all" }, 0},
	} {
		r.alter = row.alter
		r.step()
		bad += row.bad
		if r.view.Bad != bad {
			t.Fatal(row.name, r.view.Bad, bad)
		}
	}
}

// P24.3: of several frames of a port in one tick the last one counts.
func TestLastFrame(t *testing.T) {
	r := setup{}.rig(t)
	r.alter = func(in *api.Inputs) {
		for i := range 3 {
			in.Gnss[i] = write(t, api.Gnss, 1, 2, 3, 4) + write(t, api.Gnss, 70, -80, 30, -40)
			in.Baro[i] = write(t, api.Baro, 9, 9) + write(t, api.Baro, 500, -60)
		}
		in.Esc = write(t, api.Esc, 0, 5) + write(t, api.Esc, 0, 7000)
	}
	r.step()
	for i, want := range []api.Axis{
		{P: api.Span{Lo: 6400*50 + 0, Hi: 6400*91 - 0}, V: api.Span{Lo: 26, Hi: 34}},
		{P: api.Span{Lo: 6400 * -100, Hi: 6400 * -59}, V: api.Span{Lo: -44, Hi: -36}},
		{P: api.Span{Lo: 6400 * 480, Hi: 6400 * 521}, V: api.Span{Lo: -64, Hi: -56}},
	} {
		if r.view.Axes[i] != want {
			t.Error(i, r.view.Axes[i], want)
		}
	}
	if r.view.Left != (api.Span{Lo: 6900, Hi: 7100}) {
		t.Error(r.view.Left)
	}
}

// P24.3: bad ones of ports, refused messages and bad frames are counted together, up to 65535.
func TestBadTogether(t *testing.T) {
	r := setup{}.rig(t)
	r.still = true
	unknown := "\xfd\x00\x00\x63" // of a frame, its check lacking
	steps := []struct {
		port, link string
		bad        int
	}{
		{"\xa5\xa5\xa5", "", 3},
		{"", msgFrame(t, 99, ""), 4},
		{"\xa5", msgFrame(t, 3, "short"), 6},
		{"", "\xfd\xff", 7},
		{"", unknown + "\x00\x00", 8},
		{strings.Repeat("\xa5", 40000), "", 40008},
		{"", strings.Repeat("\xfd\xff", 25000), 65008},
		{"", strings.Repeat(msgFrame(t, 0, ""), 526), 65534},
		{"\xa5", "", 65535},
		{"\xa5", msgFrame(t, 99, ""), 65535},
		{strings.Repeat("\xa5", 70000), strings.Repeat("\xfd\xff", 70000), 65535},
	}
	for i, s := range steps {
		r.alter = func(in *api.Inputs) { in.Rc = s.port }
		r.link = s.link
		r.step()
		if r.view.Bad != s.bad {
			t.Fatal(i, r.view.Bad, s.bad)
		}
	}
	r.align(0)
	for r.tick%40 != 0 {
		r.step()
	}
	r.step()
	if got := r.heard[0]; got.Kind != api.Heartbeat || got.Fields[4] != 65535 {
		t.Error(got)
	}
}

// P24.3: refused messages alone, up to 65535.
func TestRefusedAlone(t *testing.T) {
	r := setup{}.rig(t)
	r.link = strings.Repeat(msgFrame(t, 12, "x"), 65534)
	r.step()
	if r.view.Bad != 65534 {
		t.Error(r.view.Bad)
	}
	for range 3 {
		r.link = msgFrame(t, 12, "x")
		r.step()
		if r.view.Bad != 65535 {
			t.Error(r.view.Bad)
		}
	}
}

// P24.3: headings lie around 0: units that point to both sides of the north do not vote for the south.
func TestHeadingsAroundNorth(t *testing.T) {
	r := airborne(t, setup{})
	for _, row := range []struct {
		headings [3]int
		twist    int // of each motor pair: above 0 turns to the left of what is told
	}{
		{[3]int{0, 0, 0}, 0},
		{[3]int{65535, 1, -1}, 0},
		// Two units, at 600 to the left and to the right: the middle is 0, not half a turn.
		{[3]int{600, 65536 - 600, -1}, 0},
		{[3]int{6000, 6000, 6000}, -1},
		{[3]int{65536 - 6000, 65536 - 6000, 65536 - 6000}, 1},
		{[3]int{32767, 32767, 32767}, -1},
		{[3]int{40000, 40000, 40000}, 1},
	} {
		r.alter = func(in *api.Inputs) {
			for i, h := range row.headings {
				in.Imu[i] = ""
				if h >= 0 {
					in.Imu[i] = write(t, api.Imu, h, 0, 0, 0)
				}
			}
		}
		r.run(200)
		twist := r.out.Motors[0] - r.out.Motors[1]
		if sign(twist) != row.twist {
			t.Error(row.headings, r.out.Motors)
		}
	}
}

func sign(x int) int {
	switch {
	case x < 0:
		return -1
	case x > 0:
		return 1
	}
	return 0
}

// P24.3: the switch: the first frame makes no wish, nor the same one again; another one does, if it is from 1 to 6.
func TestSwitch(t *testing.T) {
	modes := map[int]api.Mode{1: api.Hold, 2: api.Position, 3: api.Altitude, 4: api.Auto, 5: api.Climb, 6: api.Land}
	var mission = []api.MissionItem{{Kind: api.LoiterItem, A: 1000000}}
	for before := range 9 {
		for knob := range 9 {
			for _, from := range []int{hold, position} {
				r := airborne(t, setup{items: mission})
				r.command(position)
				if from == hold {
					r.command(hold)
				}
				mode := r.view.Mode
				r.align(0)
				r.rc = write(t, api.Rc, 0, 0, 0, 0, before)
				r.run(4)
				r.is(mode) // the first frame
				r.rc = write(t, api.Rc, 0, 0, 0, 0, before)
				r.run(5)
				r.is(mode) // the same again
				r.align(0)
				r.rc = write(t, api.Rc, 0, 0, 0, 0, knob)
				r.run(4)
				want, wished := modes[knob]
				if before == knob || !wished {
					want = mode
				}
				if r.view.Mode != want {
					t.Fatal(before, knob, mode, r.view.Mode, want)
				}
			}
		}
	}
}

// P24.3: what the switch is held against is the frame ahead, however long ago that was, and whatever came between it and that; 255 is no wish.
func TestSwitchAhead(t *testing.T) {
	r := airborne(t, setup{par: map[int]int{api.RcWait: 40}})
	turn := func(knob int) {
		r.rc = write(t, api.Rc, 0, 0, 0, 0, knob)
		r.run(4)
	}
	turn(2)
	r.is(api.Hold)
	r.run(500)
	turn(2)
	r.is(api.Hold)
	turn(255)
	r.is(api.Hold)
	turn(2)
	r.is(api.Position)
	turn(0)
	turn(1)
	r.is(api.Hold)
	// A bad frame is none.
	bad := write(t, api.Rc, 0, 0, 0, 0, 3)
	r.rc = bad[:len(bad)-1] + "\x00"
	if bad[len(bad)-1] == 0 {
		t.Fatal("another byte is wanted")
	}
	r.run(4)
	turn(1)
	r.is(api.Hold)
	// Two wishes between two thinkings: the one of the lesser number is followed.
	r.align(1)
	r.rc = write(t, api.Rc, 0, 0, 0, 0, 3)
	r.step()
	r.rc = write(t, api.Rc, 0, 0, 0, 0, 2)
	r.run(3)
	r.is(api.Position)
	// Several frames of one tick: the last one alone is one.
	r.align(1)
	r.rc = write(t, api.Rc, 0, 0, 0, 0, 1) + write(t, api.Rc, 0, 0, 0, 0, 2)
	r.run(4)
	r.is(api.Position)
	// Each of two pairs of frames turns it.
	r.align(1)
	r.rc = write(t, api.Rc, 0, 0, 0, 0, 9) + write(t, api.Rc, 0, 0, 0, 0, 1)
	r.run(4)
	r.is(api.Hold)
}

// P24.3: the sticks are those of the last frame.
func TestSticksNow(t *testing.T) {
	for _, s := range [][3]int{{500, -500, 0}, {-3, 0, 1000}, {0, 0, 0}} {
		r := airborne(t, setup{})
		r.command(position)
		r.rc = write(t, api.Rc, 0, 0, 0, 0, 0) + write(t, api.Rc, s[0], s[1], s[2], 999, 0)
		r.run(1)
		r.rc = write(t, api.Rc, s[0], s[1], s[2], -999, 0)
		r.run(390)
		want := [3]int{}
		for i := range want {
			// The vehicle does not move: all that may be is asked for.
			want[i] = 64 * sign(s[i])
		}
		if got := askedBy(r.out.Motors); got != want && s != [3]int{-3, 0, 1000} {
			t.Error(s, got, want)
		}
		if s[0] == -3 {
			// -3 times 16000 over 1000.
			if got := askedBy(r.out.Motors); got != [3]int{-48, 0, 64} {
				t.Error(got)
			}
		}
	}
}

// P24.3: the age of the remote control goes on up to 65535 and stays there.
func TestRemoteAge(t *testing.T) {
	t.Parallel()
	r := airborne(t, setup{par: map[int]int{api.RcWait: 40000, api.LinkWait: 40000}})
	r.command(position)
	r.rc = write(t, api.Rc, 1000, 0, 0, 0, 0)
	r.step()
	heardAt := r.tick - 1
	link := func(in *api.Inputs) {
		if r.tick%1000 == 0 {
			in.Link = commandText(t, 0)
		}
	}
	r.alter = link
	for r.tick-1 < heardAt+40000 {
		r.step()
	}
	if got := askedBy(r.out.Motors)[0]; got != 64 {
		t.Error("let go too early", got)
	}
	r.run(1600)
	if got := askedBy(r.out.Motors)[0]; got != 0 {
		t.Error("never let go", got)
	}
	r.run(70000 - 41600)
	if got := askedBy(r.out.Motors)[0]; got != 0 {
		t.Error(got)
	}
	r.is(api.Position)
}

// askedBy is what is asked for on each axis, by what motors do.
func askedBy(motors [8]int) [3]int {
	var arms [4]int
	for i := range arms {
		arms[i] = motors[2*i] + motors[2*i+1]
	}
	return [3]int{
		(arms[0] - arms[1] - arms[2] + arms[3]) / 4,
		(arms[0] + arms[1] - arms[2] - arms[3]) / 4,
		(arms[0]+arms[1]+arms[2]+arms[3])/4 - 392,
	}
}

// P24.3: the first dead motor that was ever told is the dead one; 0 and above 8 are none.
func TestDeadMotor(t *testing.T) {
	for first := range 12 {
		for _, second := range []int{0, 1, 5, 8, 9, 255} {
			r := airborne(t, setup{})
			r.told = first
			if first == 11 {
				r.told = 255
			}
			r.run(1)
			r.told = second
			r.run(1)
			r.told = 0
			r.run(1)
			want := 0
			if first >= 1 && first <= 8 {
				want = first
			} else if second >= 1 && second <= 8 {
				want = second
			}
			for i, x := range r.out.Motors {
				if (x == 0) != (i == want-1) {
					t.Error(first, second, r.out.Motors)
				}
			}
		}
	}
}

// P24.3: the charge is a reading of the tick in which it is told; else the battery knows by itself what is drawn.
func TestCharge(t *testing.T) {
	r := setup{}.rig(t)
	r.w.Charge = 20000
	r.step()
	if r.view.Left != (api.Span{Lo: 19900, Hi: 20100}) {
		t.Error(r.view.Left)
	}
	r.alter = func(in *api.Inputs) { in.Esc = "" }
	r.run(3)
	if r.view.Left != (api.Span{Lo: 19888, Hi: 20100}) {
		t.Error(r.view.Left)
	}
	r.alter = nil
	r.w.Charge = -2147483648
	r.run(1)
	if r.view.Left != (api.Span{Lo: -2147483748, Hi: -2147483548}) {
		t.Error(r.view.Left)
	}
}

// P24.3: each unit's fields are its own: what one of three says does not become another one's.
func TestUnitsApart(t *testing.T) {
	for silent := range 3 {
		for odd := range 3 {
			r := setup{}.rig(t)
			r.alter = func(in *api.Inputs) {
				for i := range 3 {
					in.Gnss[i] = write(t, api.Gnss, 100*i, -100*i, i, -i)
					in.Baro[i] = write(t, api.Baro, 50*i, 10*i)
				}
				in.Gnss[silent], in.Baro[odd] = "", ""
			}
			r.step()
			a, b := (silent+1)%3, (silent+2)%3
			if got, want := mid(r.view.Axes[0].P), 6400*(100*(a+b)/2)+3200; got != want {
				t.Error(silent, odd, got, want)
			}
			a, b = (odd+1)%3, (odd+2)%3
			if got, want := mid(r.view.Axes[2].P), 6400*(50*(a+b)/2)+3200; got != want {
				t.Error(silent, odd, got, want)
			}
		}
	}
}

func mid(s api.Span) int { return (s.Lo + s.Hi) / 2 }
