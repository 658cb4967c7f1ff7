package wear

import (
	"amble/api"
	"amble/exact"
)

// grown returns the least box that holds a box and a sample.
func grown(b Box, s Sample) Box {
	return Box{
		Low:  Sample{exact.Min(b.Low.Load, s.Load), exact.Min(b.Low.Angle, s.Angle), exact.Min(b.Low.Speed, s.Speed)},
		High: Sample{exact.Max(b.High.Load, s.Load), exact.Max(b.High.Angle, s.Angle), exact.Max(b.High.Speed, s.Speed)},
	}
}

// Boxes returns the least box of the samples of each phase, for which phases
// there are any, and which records' samples are also in the box of which other
// phase.
func Boxes(records []Record) (boxes []Box, known []bool, mixed [][2]int, e api.Errno) {
	isRecord := func(r Record) bool { return r.Phase < phases }
	switch {
	case !all(records, isRecord):
		return nil, nil, nil, api.ErrArg
	case len(records) > api.MaxWorn:
		return nil, nil, nil, api.ErrLimit
	}
	boxes, known = make([]Box, phases), make([]bool, phases)
	for _, r := range records {
		if !known[r.Phase] {
			boxes[r.Phase], known[r.Phase] = Box{r.Sample, r.Sample}, true
		}
		boxes[r.Phase] = grown(boxes[r.Phase], r.Sample)
	}
	for i, r := range records {
		for phase, b := range boxes {
			if known[phase] && phase != int(r.Phase) && isIn(r.Sample, b) {
				mixed = append(mixed, [2]int{i, phase})
			}
		}
	}
	return boxes, known, mixed, api.OK
}
