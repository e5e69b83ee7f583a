package impl

import "testing"

// No play has steps enough for it, so the clock's limit is tried from a carrier that stands near it.
func TestTheClockOfACarrierStopsAtItsLimit(t *testing.T) {
	for now := 198; now < 200; now++ {
		if c, did := (Carrier{Now: now}).tried(CarryStep{Kind: CaTick}); !did || c.Now != now+1 {
			t.Errorf("a tick at %d: %d, %t", now, c.Now, did)
		}
	}
	if c, did := (Carrier{Now: 200}).tried(CarryStep{Kind: CaTick}); did || c.Now != 200 {
		t.Errorf("a tick at 200: %d, %t", c.Now, did)
	}
}

func TestNothingIsSubmittedWhenTheLastEndIsOver(t *testing.T) {
	for _, end := range []int{100, 101, 150, 200} {
		if c, did := (Carrier{Now: 101}).tried(CarryStep{Kind: CaSubmit, K: end, Text: "ab"}); did || len(c.Outs) > 0 {
			t.Errorf("submitted with the End %d at 101: %v, %t", end, c.Outs, did)
		}
	}
}
