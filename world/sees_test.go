package world_test

import (
	"slices"
	"testing"

	"windhover/api"
	"windhover/world"
)

// The chapter's example of Curve, and others by hand.
func TestCurveExamples(t *testing.T) {
	for _, c := range []struct {
		motors [8]int
		base   int
		motor  int
		want   int
	}{
		{all(196), 1, 2, 4},
		{all(0), 0, 0, 0},
		{all(0), 7, 1000, 7},
		{all(600), 0, 1, 4},
		{all(600), 0, 1024, 4800},
		{all(601), 5, 1024, 4805},
		{all(128), 0, 1, 1},
		{[8]int{128, 128, 128, 128, 128, 128, 128, 127}, 0, 1, 0},
		{[8]int{1}, 0, 1023, 0},
		{[8]int{1}, 0, 1024, 1},
		{[8]int{1}, 0, 1025, 1},
		{[8]int{1}, 0, -1, -1},
		{[8]int{1}, 0, -1024, -1},
		{[8]int{1}, 0, -1025, -2},
		{[8]int{1}, 3, -1, 2},
		{[8]int{1}, -3, -1, -4},
		{[8]int{-1, -1024, least}, 5, 1024, 5},
		{[8]int{most, 0, 0, 0, 0, 0, 0, least}, 5, 1024, 605},
		{all(least), 5, 1024, 5},
		{all(most), 5, 1024, 4805},
		{[8]int{1, 2, 3, 4, 5, 6, 7, 8}, 0, 1024, 36},
	} {
		if got := world.Curve(c.motors, c.base, c.motor); got != c.want {
			t.Errorf("Curve(%v, %d, %d) = %d; asked for: %d", c.motors, c.base, c.motor, got, c.want)
		}
	}
}

// P23.2: each motor's command counts from 0 to 600, each as much as any other one.
func TestCurveEachMotor(t *testing.T) {
	for i := range 8 {
		for _, command := range append(ends(), -601, -600, -1, 0, 1, 2, 300, 599, 600, 601, 602, 1200) {
			motors := all(100)
			motors[i] = command
			want := 700 + max(0, min(command, 600))
			if got := world.Curve(motors, 0, 1024); got != want {
				t.Errorf("motor %d at %d: %d; asked for: %d", i+1, command, got, want)
			}
			curve(t, motors, 3, 5)
		}
	}
}

// P23.2: base and motor below 0, at 0 and at an int's ends, with sums of all sizes: the product stops, and so does the sum.
func TestCurveEnds(t *testing.T) {
	numbers := append(ends(), -2000, -1025, -1024, -1023, -2, -1, 0, 1, 2, 1023, 1024, 1025, 2000, most/600, most/600+1, most/4800, most/4800+1, least/4800, least/4800-1)
	for _, motors := range [][8]int{all(0), {1}, {2}, {600}, {600, 424}, all(196), all(600), mixed()} {
		for _, base := range numbers {
			for _, motor := range numbers {
				curve(t, motors, base, motor)
			}
		}
	}
}

// P23.2: where the product stops, the stopped one is what is divided; numbers by hand.
func TestCurveStops(t *testing.T) {
	const top, bottom = 1<<53 - 1, -1 << 53 // the ends over 1024, rounded down
	for _, c := range [][4]int{
		{600, 0, most, top},
		{600, 0, least, bottom},
		{1, 0, most, top},
		{1, 0, least, bottom},
		{1, 0, least + 1, bottom},
		{2, 0, 1 << 62, top},
		{2, 0, -1 << 62, bottom},
		{2, 0, -1<<62 - 1, bottom},
		{600, most, most, most},
		{600, most, least, most - 1<<53},
		{600, least, least, least},
		{600, least, most, least + top},
		{600, most - top, most, most},
		{600, most - top + 1, most, most},
		{600, least - bottom, least, least},
		{1, least, -1, least},
		{1, least + 1, -1, least},
		{0, most, most, most},
		{0, least, least, least},
	} {
		if got := world.Curve([8]int{c[0]}, c[1], c[2]); got != c[3] {
			t.Errorf("Curve(%v) = %d; asked for: %d", c[:3], got, c[3])
		}
	}
}

// P23.2: all sums of commands, with motors that round in every way.
func TestCurveEachSum(t *testing.T) {
	for sum := range 4801 {
		var motors [8]int
		left := sum
		for i := range motors {
			motors[i] = min(left, 600)
			left -= motors[i]
		}
		for _, motor := range []int{-1024, -3, -1, 0, 1, 2, 5, 512, 1023} {
			curve(t, motors, 1, motor)
		}
	}
}

// The chapter's examples of Sees.
func TestSeesExamples(t *testing.T) {
	w := api.World{P: [3]int{6399, -1, 12800}, V: [3]int{1, 2, 3}, H: 20}
	for i, c := range []struct {
		s    api.Sensor
		off  []int
		want []int
	}{
		{api.Imu, nil, []int{1, 0, 0, 0}},
		{api.Baro, []int{5}, []int{7, 3}},
		{api.Gnss, nil, []int{0, -1, 1, 2}},
		{api.Rc, nil, nil},
	} {
		if got := world.Sees(w, c.s, c.off...); !slices.Equal(got, c.want) {
			t.Errorf("%d: %v; asked for: %v", i, got, c.want)
		}
	}
}

// P23.3: of all other numbers of sensors nothing is told, whatever is off.
func TestSeesNothing(t *testing.T) {
	for s := range 256 {
		if s >= 1 && s <= 3 {
			continue
		}
		for _, off := range [][]int{nil, {1}, {1, 2, 3, 4, 5}, ends()} {
			if got := world.Sees(far(), api.Sensor(s), off...); len(got) != 0 {
				t.Errorf("sensor %d, off %v: %v", s, off, got)
			}
		}
	}
}

// P23.3: what is told of a world in which no two numbers are alike; nothing else is told of it.
func TestSeesEach(t *testing.T) {
	w := api.World{P: [3]int{6400 * 11, 6400 * 12, 6400 * 13}, V: [3]int{21, 22, 23}, H: 16 * 31, R: 41, Charge: 51}
	for s, want := range map[api.Sensor][]int{
		api.Imu:  {31, 41, 0, 0},
		api.Baro: {13, 23},
		api.Gnss: {11, 12, 21, 22},
		api.Rc:   {},
		api.Esc:  {},
	} {
		if got := world.Sees(w, s); !slices.Equal(got, want) {
			t.Errorf("sensor %d: %v; asked for: %v", s, got, want)
		}
		// Each off belongs to its own number.
		for i := range want {
			off := make([]int, i+1)
			off[i] = -1000
			other := slices.Clone(want)
			other[i] -= 1000
			if s == api.Imu && i == 0 {
				other[0] += 65536
			}
			if got := world.Sees(w, s, off...); !slices.Equal(got, other) {
				t.Errorf("sensor %d, off %v: %v; asked for: %v", s, off, got, other)
			}
		}
	}
}

// P23.3: fewer offs than numbers leave the others as they are; more do not count.
func TestSeesOffs(t *testing.T) {
	offs := []int{100, -200, 300, -400, 500, 600, most, least}
	for n := range len(offs) + 1 {
		for s := range api.Sensor(8) {
			sees(t, far(), s, offs[:n]...)
		}
	}
	for _, c := range []struct {
		s    api.Sensor
		want [6][]int
	}{
		{api.Imu, [6][]int{{62, -21, 0, 0}, {162, -21, 0, 0}, {162, -221, 0, 0}, {162, -221, 300, 0}, {162, -221, 300, -400}, {162, -221, 300, -400}}},
		{api.Baro, [6][]int{{100, 17}, {200, 17}, {200, -183}, {200, -183}, {200, -183}, {200, -183}}},
		{api.Gnss, [6][]int{{10, -15, 11, -13}, {110, -15, 11, -13}, {110, -215, 11, -13}, {110, -215, 311, -13}, {110, -215, 311, -413}, {110, -215, 311, -413}}},
	} {
		for n, want := range c.want {
			if got := world.Sees(far(), c.s, offs[:n]...); !slices.Equal(got, want) {
				t.Errorf("sensor %d, %d offs: %v; asked for: %v", c.s, n, got, want)
			}
		}
	}
}

// P23.3: H over 16 is rounded down, on both sides of 0, and comes within 65536.
func TestSeesHeading(t *testing.T) {
	for _, c := range [][2]int{
		{0, 0}, {1, 0}, {15, 0}, {16, 1}, {17, 1}, {31, 1}, {32, 2}, {-1, 65535}, {-15, 65535}, {-16, 65535}, {-17, 65534}, {-32, 65534},
		{1048575, 65535}, {1048576, 0}, {1048591, 0}, {1048592, 1}, {-1048576, 0}, {-1048577, 65535}, {most, 65535}, {most - 15, 65535}, {most - 16, 65534}, {least, 0}, {least + 15, 0}, {least + 16, 1},
	} {
		if got := world.Sees(api.World{H: c[0]}, api.Imu); !slices.Equal(got, []int{c[1], 0, 0, 0}) {
			t.Errorf("H %d: %v; asked for: %d", c[0], got, c[1])
		}
	}
	for h := -70000; h <= 70000; h += 7 {
		sees(t, api.World{H: h}, api.Imu)
	}
}

// P23.3: Imu's first number is from 0 to 65535 whatever is off; where the sum stops, the stopped one is taken modulo 65536.
func TestSeesHeadingOff(t *testing.T) {
	for _, c := range [][3]int{
		{0, 0, 0}, {0, -1, 65535}, {0, 65535, 65535}, {0, 65536, 0}, {0, -65536, 0}, {0, -65537, 65535}, {1048575, 1, 0}, {16, -2, 65535}, {15, 1, 1}, {-1, 1, 0},
		{0, most, 65535}, {16, most, 65535}, {32, most, 65535}, {-16, most, 65534}, {0, least, 0}, {-16, least, 0}, {-1, least, 0}, {16, least, 1}, {most, most, 65535}, {least, least, 0},
		{16, most - 1, 65535}, {32, most - 1, 65535}, {-16, least + 1, 0}, {-32, least + 1, 0},
	} {
		if got := world.Sees(api.World{H: c[0]}, api.Imu, c[1]); !slices.Equal(got, []int{c[2], 0, 0, 0}) {
			t.Errorf("H %d off %d: %v; asked for: %d", c[0], c[1], got, c[2])
		}
	}
	for _, h := range append(ends(), -17, -16, -15, -1, 0, 1, 15, 16, 17) {
		for _, off := range append(ends(), -65537, -65536, -65535, -1, 0, 1, 65535, 65536, 65537) {
			first := sees(t, api.World{H: h}, api.Imu, off)[0]
			if first < 0 || first > 65535 {
				t.Errorf("H %d off %d: %d", h, off, first)
			}
		}
	}
}

// P23.3: only Imu's first number is taken modulo 65536.
func TestSeesNoTurn(t *testing.T) {
	w := api.World{P: [3]int{6400 * 65536, -6400 * 65537, -6400 * 65536}, V: [3]int{65536, -65537, -1}, R: 70000}
	for s, want := range map[api.Sensor][]int{
		api.Imu:  {0, 70000, 65536, -1},
		api.Baro: {-65536, -1, 0, 0},
		api.Gnss: {65536, -65537, 131072, -65538},
	} {
		n := len(world.Sees(w, s))
		if got := world.Sees(w, s, 0, 0, 65536, -1); !slices.Equal(got, want[:n]) {
			t.Errorf("sensor %d: %v; asked for: %v", s, got, want[:n])
		}
	}
}

// P23.3: places over 6400 are rounded down, on either side of each multiple.
func TestSeesPlaces(t *testing.T) {
	for _, mm := range []int{-1 << 40, -100000, -3, -2, -1, 0, 1, 2, 3, 100000, 1 << 40} {
		for rest := range 6400 {
			if rest > 3 && rest < 6397 && rest%97 != 0 {
				continue
			}
			p := mm*6400 + rest
			w := api.World{P: [3]int{p, p, p}}
			for i := range 3 {
				w.P = [3]int{}
				w.P[i] = p
				want := [3]int{}
				want[i] = mm
				if got := world.Sees(w, api.Gnss); !slices.Equal(got, []int{want[0], want[1], 0, 0}) {
					t.Fatal(p, got)
				}
				if got := world.Sees(w, api.Baro); !slices.Equal(got, []int{want[2], 0}) {
					t.Fatal(p, got)
				}
			}
		}
	}
}

// P23.3: all numbers of a world and all offs at an int's ends: each sum stops.
func TestSeesEnds(t *testing.T) {
	numbers := append(ends(), -6401, -6400, -1, 0, 1, 6399, 6400)
	for _, a := range numbers {
		for _, b := range numbers {
			w := api.World{P: [3]int{a, b, a}, V: [3]int{b, a, b}, H: a, R: b, Charge: a}
			for _, x := range numbers {
				for _, s := range []api.Sensor{api.Imu, api.Baro, api.Gnss} {
					sees(t, w, s, x, x, x, x)
					sees(t, w, s, x, -1-x, x, -1-x)
				}
			}
		}
	}
	for _, c := range [][3]int{{5, most, most}, {-5, most, most - 5}, {5, least, least + 5}, {-5, least, least}, {most, 1, most}, {least, -1, least}, {most, least, -1}, {most, most, most}, {least, least, least}} {
		w := api.World{V: [3]int{c[0], c[0], c[0]}, R: c[0]}
		if got := world.Sees(w, api.Imu, 0, c[1], c[1], c[1]); !slices.Equal(got, []int{0, c[2], c[1], c[1]}) {
			t.Error(c, got)
		}
		if got := world.Sees(w, api.Baro, 0, c[1]); !slices.Equal(got, []int{0, c[2]}) {
			t.Error(c, got)
		}
		if got := world.Sees(w, api.Gnss, 0, 0, c[1], c[1]); !slices.Equal(got, []int{0, 0, c[2], c[2]}) {
			t.Error(c, got)
		}
	}
	if got := world.Sees(api.World{P: [3]int{6400, -1, 12800}}, api.Gnss, most, least); !slices.Equal(got, []int{most, least, 0, 0}) {
		t.Error(got)
	}
	if got := world.Sees(api.World{P: [3]int{0, 0, 6400}}, api.Baro, most); !slices.Equal(got, []int{most, 0}) {
		t.Error(got)
	}
}
