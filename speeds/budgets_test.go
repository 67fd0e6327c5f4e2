package speeds_test

import (
	"testing"

	"plugboard/api"
	"plugboard/speeds"
)

// TestP4_4Speeds: the budget and the share of every speed.
func TestP4_4Speeds(t *testing.T) {
	for _, c := range []struct {
		s             api.Speed
		budget, share int
	}{{api.Low, 12000, 10800}, {api.Full, 12000, 10800}, {api.High, 60000, 48000}} {
		if budget, share := speeds.Budget(c.s), speeds.Share(c.s); budget != c.budget || share != c.share {
			t.Errorf("Budget(%d) = %d, Share %d; expected %d, %d", c.s, budget, share, c.budget, c.share)
		}
	}
}

// TestP4_4Strange: all numbers that are no speeds.
func TestP4_4Strange(t *testing.T) {
	for _, s := range strangeSpeeds() {
		if budget, share := speeds.Budget(s), speeds.Share(s); budget != 0 || share != 0 {
			t.Errorf("Budget(%d) = %d, Share %d", s, budget, share)
		}
	}
}

// TestP4_7ShareIsLess: the share of a budget is less than the budget.
func TestP4_7ShareIsLess(t *testing.T) {
	for _, s := range allSpeeds {
		if speeds.Share(s) >= speeds.Budget(s) || speeds.Share(s) <= 0 {
			t.Errorf("Share(%d) = %d of %d", s, speeds.Share(s), speeds.Budget(s))
		}
	}
}
