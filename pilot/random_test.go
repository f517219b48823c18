package pilot_test

import (
	"math/rand"
	"testing"

	"windhover/api"
)

// P24.1 to P24.9: flights in the air, with orders at random.
func TestFlightsAtRandom(t *testing.T) {
	for seed := range 20 {
		rng := rand.New(rand.NewSource(int64(seed)))
		r := setup{items: []api.MissionItem{{Kind: api.TakeoffItem, A: 3000}, {Kind: api.WaypointItem, A: 5000, B: -4000, C: 6000}, {Kind: api.LoiterItem, A: 30}, {Kind: api.SpeedItem, A: 3000}, {Kind: api.WaypointItem, A: 0, B: 0, C: 3000}, {Kind: api.JumpItem, A: 1, B: 1}, {Kind: api.LandItem}}, fence: square(30000, 20000)}.rig(t)
		seen := map[api.Mode]int{}
		for range 12000 {
			if rng.Intn(200) == 0 {
				r.link = commandText(t, 1+rng.Intn(10))
			}
			r.step()
			seen[r.view.Mode]++
		}
		t.Log(seed, seen)
	}
}
