package airmass

import (
	"iter"

	"observatory/api"
	"observatory/calendar"
)

const (
	side      = api.Turn / api.Columns // units of a band
	bandFall  = 50                     // what the height falls by from band to band
	hourFall  = 5                      // what it falls by within hourUnits of the hour angle
	hourUnits = 16
	lowest    = 100  // the least height with an airmass
	zenith    = 1000 // the airmass at the greatest height
)

// abs returns the absolute value of a number.
func abs[N ~int | ~int64](n N) N { return max(n, -n) }

// slots goes through the slots of a night, with their moments.
func slots(night int) iter.Seq2[int, int] {
	return func(yield func(slot, m int) bool) {
		for slot := range api.Slots {
			m, err := calendar.Moment(night, slot)
			if err != api.OK || !yield(slot, m) {
				return
			}
		}
	}
}

// hourOf returns the hour angle of the column that a tile with this centre is in: the X of the centre is what it subtracts from the sidereal angle.
func hourOf(centre api.Position, m int) (int, api.Errno) {
	angle, err := calendar.Sidereal(m)
	if err != api.OK {
		return 0, err
	}
	const half = api.Turn / 2
	return (angle-centre.X+half+api.Turn)%api.Turn - half, api.OK
}

// bandOf returns the band of the tile with this centre.
func bandOf(centre api.Position) int { return centre.Y / side }

// heightOf returns the height of a tile some bands from the site.
func heightOf(bands, hour int) int {
	return api.MaxHeight - bandFall*abs(bands) - hourFall*abs(hour)/hourUnits
}
