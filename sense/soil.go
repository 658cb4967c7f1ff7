package sense

import (
	"slices"

	"amble/api"
	"amble/exact"
)

// fits reports whether Give is not below 0, and not above Sink.
func (s Soil) fits() bool { return s.Give.Sign() >= 0 && s.Give.Cmp(s.Sink) <= 0 }

func (s Soil) isValid() bool { return s.fits() && s.Yield.Sign() >= 0 }

// shares returns what a depth takes of Give and of Sink, for a peak before the
// load.
func shares(yield, peak, load exact.Q) (ofGive, ofSink exact.Q) {
	peak = exact.Max(peak, load)
	ofSink = exact.Max(exact.Q{}, peak.Sub(yield))
	return load.Sub(ofSink), ofSink
}

// depth returns the depth under a load, for a peak before it.
func (s Soil) depth(peak, load exact.Q) exact.Q {
	ofGive, ofSink := shares(s.Yield, peak, load)
	return s.Give.Mul(ofGive).Add(s.Sink.Mul(ofSink))
}

// Depth returns the depth under a load, for a peak before it.
func Depth(s Soil, peak, load exact.Q) (exact.Q, api.Errno) {
	switch {
	case !s.isValid():
		return exact.Q{}, api.ErrArg
	case isBelow0(load) || isBelow0(peak):
		return exact.Q{}, api.ErrRange
	}
	return s.depth(peak, load), api.OK
}

// Press returns the depths under loads that follow each other, on ground on
// which nothing has stood.
func Press(s Soil, loads []exact.Q) ([]exact.Q, api.Errno) {
	switch {
	case !s.isValid():
		return nil, api.ErrArg
	case slices.ContainsFunc(loads, isBelow0):
		return nil, api.ErrRange
	case len(loads) > api.MaxSenses:
		return nil, api.ErrLimit
	}
	var depths []exact.Q
	var peak exact.Q
	for _, load := range loads {
		depths = append(depths, s.depth(peak, load))
		peak = exact.Max(peak, load)
	}
	return depths, api.OK
}

// bearing returns the greatest load under which the soil is at most so deep, as
// it is under no load; false: it is so under each one. Up to where the load is
// both the peak and not below Yield, the depth rises with Give, and then with
// Sink.
func (s Soil) bearing(peak, depth exact.Q) (exact.Q, bool) {
	knee := exact.Max(peak, s.Yield)
	room := depth.Sub(s.depth(peak, knee))
	switch {
	case room.Sign() < 0:
		return knee.Add(over(room, s.Give)), true
	case s.Sink.Sign() == 0:
		return exact.Q{}, false
	}
	return knee.Add(over(room, s.Sink)), true
}
