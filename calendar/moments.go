package calendar

import (
	"iter"

	"observatory/api"
)

// What the sidereal angle grows by, modulo a turn.
const (
	anglePerSlot  = 60
	anglePerNight = 16
)

func isMoment(m int) bool { return 0 <= m && m <= api.MaxMoment }

// from goes through the moments from one on.
func from(m int) iter.Seq[int] {
	return func(yield func(int) bool) {
		for next := m; next <= api.MaxMoment; next++ {
			if !yield(next) {
				return
			}
		}
	}
}

// sidereal returns the sidereal angle of a moment.
func sidereal(m int) int {
	return (m%api.Slots*anglePerSlot + m/api.Slots*anglePerNight) % api.Turn
}

// reaches reports whether a moment reaches an angle: it is the first one of its night that is not before the angle.
func reaches(m, angle int) bool {
	return (sidereal(m)-angle+api.Turn)%api.Turn < anglePerSlot
}
