package airmass_test

import (
	"math"
	"slices"
	"testing"

	"observatory/airmass"
	"observatory/api"
)

// spans returns the spans from each number to the one behind it.
func spans(ends ...int) []api.Span {
	var l []api.Span
	for i := 0; i < len(ends); i += 2 {
		l = append(l, api.Span{From: ends[i], Until: ends[i+1]})
	}
	return l
}

// far are numbers far away from all columns, sites, tiles, nights and moments, among them some that become such numbers when bits are cut off or signs are lost.
func far() []int {
	return []int{
		math.MinInt, math.MinInt + 1, math.MinInt + 96, -1<<63 + 1<<32, -1<<32 - 1, -1 << 32, -1<<32 + 1, -1<<31 - 1, -1 << 31, -1 << 16, -38400, -38399,
		1 << 16, 1<<31 - 1, 1 << 31, 1<<32 - 1, 1 << 32, 1<<32 + 1, 1 << 58, math.MaxInt/96 + 1, math.MaxInt - 1, math.MaxInt,
	}
}

func noColumns() []int {
	return append(far(), -180, -33, -32, -31, -2, -1, 32, 33, 63, 64, 511, 512, 5760)
}

func noSites() []int {
	return append(far(), -17, -16, -15, -2, -1, 16, 17, 31, 32, 511, 512)
}

func noTiles() []int {
	return append(far(), -513, -512, -511, -33, -32, -31, -2, -1, 512, 513, 543, 544, 1023, 1024, 5760)
}

func noNights() []int {
	return append(far(), -401, -400, -399, -2, -1, 400, 401, 799, 800, 38399)
}

func noMoments() []int {
	return append(far(), -5760, -97, -96, -95, -2, -1, 38400, 38401, 38495, 38496, 76799)
}

// P11.1 (K1): the first and the last columns, moments and slots, both sides of the meridian and of the place behind the sky where the hour angles begin anew, and the examples.
func TestHour(t *testing.T) {
	for _, x := range [][3]int{
		{0, 0, -90}, {0, 1, -30}, {0, 2, 30}, {0, 3, 90}, {31, 0, 90}, {31, 1, 150}, {1, 0, -270}, {1, 4, -30}, {1, 5, 30}, {30, 0, 270},
		{0, 47, 2730}, {0, 48, 2790}, {0, 49, 2850}, {0, 50, -2850}, {0, 51, -2790}, {15, 0, -2790}, {16, 0, 2790}, {15, 95, -2850}, {16, 95, 2730}, {16, 1, 2850}, {16, 2, -2850}, {31, 46, 2850}, {31, 47, -2850},
		{0, 95, -150}, {0, 96, -74}, {31, 95, 30}, {31, 96, 106}, {31, 97, 166}, {0, 192, -58}, {0, 193, 2}, {1, 196, 2}, {1, 1249, -2}, {0, 481, 50}, {16, 193, -2878}, {17, 1249, 2878}, {17, 1250, -2822}, {16, 192, 2822}, {18, 1252, 2878},
		{12, 1247, -2118}, {16, 19200, 230}, {7, 12345, -1642}, {20, 34560, 2070}, {0, 34560, -90}, {0, 38304, 534}, {31, 38304, 714}, {0, 38399, 474}, {31, 38399, 654}, {31, 38398, 594},
	} {
		if hour, err := airmass.Hour(x[0], x[1]); hour != x[2] || err != api.OK {
			t.Errorf("Hour(%d, %d): %d, error %d; want %d", x[0], x[1], hour, err, x[2])
		}
	}
}

// P11.1 (K1), P1: ErrArg if there is no such column, or no such moment, or neither.
func TestHourOfNoColumnOrMoment(t *testing.T) {
	check := func(column, m int) {
		if hour, err := airmass.Hour(column, m); hour != 0 || err != api.ErrArg {
			t.Errorf("Hour(%d, %d): %d, error %d", column, m, hour, err)
		}
	}
	for _, column := range noColumns() {
		for _, m := range append(noMoments(), 0, 1, 95, 96, 20000, 38399) {
			check(column, m)
		}
	}
	for _, m := range noMoments() {
		for column := range 32 {
			check(column, m)
		}
	}
}

// P11.1 (K2), P11.3: the first and the last sites, tiles and moments, tiles in the zenith, far behind the horizon and on both sides of the meridian and of the site, and the examples.
func TestHeight(t *testing.T) {
	for _, x := range [][4]int{
		{0, 0, 0, 872}, {0, 0, 1, 891}, {0, 0, 2, 891}, {0, 0, 3, 872}, {3, 0, 1, 741}, {15, 0, 1, 141}, {0, 480, 1, 141}, {15, 480, 1, 891}, {15, 511, 0, 872}, {0, 511, 0, 122}, {0, 31, 0, 872}, {15, 31, 0, 122},
		{7, 7 * 32, 1, 891}, {7, 6 * 32, 1, 841}, {7, 8 * 32, 1, 841}, {8, 7 * 32, 1, 841}, {6, 7 * 32, 1, 841}, {8, 8*32 + 16, 0, 29}, {7, 8*32 + 16, 0, -21}, {9, 8*32 + 16, 0, -21}, {2, 95, 0, 872}, {0, 95, 0, 772},
		{0, 0, 193, 900}, {15, 480, 193, 900}, {8, 8*32 + 1, 1249, 900}, {8, 8*32 + 1, 196, 900}, {1, 0, 193, 850}, {0, 0, 192, 882}, {0, 0, 194, 881}, {0, 0, 38399, 752}, {0, 31, 38399, 696}, {15, 511, 38399, 696}, {15, 0, 38399, 2},
		{0, 0, 49, 10}, {0, 0, 50, 10}, {0, 0, 48, 29}, {15, 0, 50, -740}, {15, 0, 49, -740}, {0, 511, 46, -740}, {0, 496, 193, -749}, {15, 16, 193, -749}, {15, 17, 1249, -749}, {0, 16, 193, 1}, {15, 496, 193, 1}, {1, 16, 193, -49},
	} {
		if height, err := airmass.Height(x[0], x[1], x[2]); height != x[3] || err != api.OK {
			t.Errorf("Height(%d, %d, %d): %d, error %d; want %d", x[0], x[1], x[2], height, err, x[3])
		}
	}
}

// P11.1 (K2), P1: ErrArg if there is no such site, tile or moment, one of them or several.
func TestHeightOfNoSiteTileOrMoment(t *testing.T) {
	check := func(site, tile, m int) {
		if height, err := airmass.Height(site, tile, m); height != 0 || err != api.ErrArg {
			t.Errorf("Height(%d, %d, %d): %d, error %d", site, tile, m, height, err)
		}
	}
	for _, site := range noSites() {
		for _, tile := range append(noTiles(), 0, 1, 31, 32, 272, 480, 511) {
			for _, m := range append(noMoments(), 0, 1, 95, 96, 38399) {
				check(site, tile, m)
			}
		}
	}
	for site := range 16 {
		for _, tile := range noTiles() {
			for _, m := range append(noMoments(), 0, 1, 95, 96, 38399) {
				check(site, tile, m)
			}
		}
		for _, tile := range []int{0, 1, 31, 32, 272, 480, 511} {
			for _, m := range noMoments() {
				check(site, tile, m)
			}
		}
	}
}

// P11.1 (K3), P11.5: heights from which 900000 is a multiple and those from which it is not, and the examples.
func TestAirmass(t *testing.T) {
	for _, x := range [][2]int{
		{900, 1000}, {899, 1001}, {898, 1002}, {800, 1125}, {750, 1200}, {700, 1285}, {600, 1500}, {451, 1995}, {450, 2000}, {449, 2004}, {300, 3000}, {256, 3515}, {200, 4500}, {127, 7086}, {128, 7031}, {102, 8823}, {101, 8910}, {100, 9000},
	} {
		if mass, err := airmass.Airmass(x[0]); mass != x[1] || err != api.OK {
			t.Errorf("Airmass(%d): %d, error %d; want %d", x[0], mass, err, x[1])
		}
	}
}

// P11.1 (K3), P1: ErrArg above the zenith, ErrLow below the height 100, where also 0 and negative heights are.
func TestAirmassOfOtherHeights(t *testing.T) {
	for _, height := range append(far(), 901, 902, 999, 1000, 9000, 900000, 900001, 99, 98, 50, 10, 2, 1, 0, -1, -2, -99, -100, -101, -450, -749, -750, -900, -900000) {
		want := api.ErrArg
		if height < 100 {
			want = api.ErrLow
		}
		if mass, err := airmass.Airmass(height); mass != 0 || err != want {
			t.Errorf("Airmass(%d): %d, error %d; want error %d", height, mass, err, want)
		}
	}
}

// P11.1 (K4), P11.6: windows from slot 0 on and to slot 95, of a single slot, two in a night, none and the whole night; least heights that are just reached and just missed; and the examples.
func TestWindows(t *testing.T) {
	for _, x := range []struct {
		site, tile, night, least int
		want                     []api.Span
	}{
		{0, 0, 0, 800, spans(0, 6, 93, 95)}, {0, 0, 0, 892, nil}, {0, 0, 0, 891, spans(1, 2)}, {0, 0, 0, 890, spans(1, 2)}, {0, 0, 0, 873, spans(1, 2)}, {0, 0, 0, 872, spans(0, 3)}, {0, 0, 0, 871, spans(0, 3)},
		{0, 0, 0, 450, spans(0, 25, 74, 95)}, {0, 0, 0, 100, spans(0, 44, 55, 95)}, {0, 0, 0, 11, spans(0, 48, 51, 95)}, {0, 0, 0, 10, spans(0, 95)}, {0, 0, 0, 9, spans(0, 95)}, {0, 0, 0, 0, spans(0, 95)}, {0, 0, 0, -1000, spans(0, 95)},
		{0, 0, 2, 901, nil}, {0, 0, 2, 900, spans(1, 1)}, {0, 0, 2, 899, spans(1, 1)}, {0, 0, 2, 880, spans(0, 2)}, {0, 0, 2, 2, spans(0, 48, 50, 95)}, {0, 0, 2, 1, spans(0, 95)},
		{0, 0, 5, 898, nil}, {0, 0, 5, 897, spans(0, 0)}, {0, 1, 17, 900, spans(0, 0)}, {0, 0, 9, 900, nil}, {0, 0, 9, 899, spans(95, 95)}, {3, 100, 50, 897, spans(0, 0)}, {3, 100, 50, 877, spans(0, 1, 95, 95)},
		{15, 511, 0, 892, nil}, {15, 511, 0, 891, spans(94, 95)}, {15, 511, 0, 871, spans(0, 0, 93, 95)}, {0, 30, 0, 891, spans(91, 92)}, {0, 30, 0, 871, spans(90, 93)}, {0, 16, 0, 800, spans(45, 54)},
		{0, 0, 399, 900, nil}, {0, 0, 399, 899, spans(87, 87)}, {0, 0, 399, 879, spans(86, 88)}, {0, 0, 399, 21, spans(0, 38, 41, 95)}, {0, 0, 399, 3, spans(0, 38, 40, 95)}, {0, 0, 399, 2, spans(0, 95)}, {15, 511, 399, 450, spans(0, 12, 61, 95)},
		{0, 511, 0, 142, nil}, {0, 511, 0, 141, spans(94, 95)}, {0, 511, 0, 0, spans(0, 6, 87, 95)}, {0, 511, 0, -739, spans(0, 45, 48, 95)}, {0, 511, 0, -740, spans(0, 95)}, {15, 0, 0, 142, nil}, {15, 0, 0, 100, spans(0, 4, 95, 95)}, {2, 16, 0, 800, nil},
		{7, 240, 200, 897, spans(92, 92)}, {8, 271, 123, 895, spans(14, 14)}, {12, 272, 399, 700, nil}, {12, 272, 399, 699, spans(39, 39)}, {12, 272, 399, 0, spans(2, 76)}, {12, 272, 399, -197, spans(0, 86, 88, 95)}, {12, 272, 399, -198, spans(0, 95)},
	} {
		if windows, err := airmass.Windows(x.site, x.tile, x.night, x.least); !slices.Equal(windows, x.want) || err != api.OK {
			t.Errorf("Windows(%d, %d, %d, %d): %v, error %d; want %v", x.site, x.tile, x.night, x.least, windows, err, x.want)
		}
	}
}

// P11.1 (K4), P11.6: no window for a least height above the zenith, the whole night for one that is below all heights, of any site and in any night.
func TestWindowsWithFarLeastHeights(t *testing.T) {
	for _, least := range append(far(), 901, 902, 1000, 9000, -750, -751, -752, -900, -9000) {
		var want []api.Span
		if least < 0 {
			want = spans(0, 95)
		}
		for site := range 16 {
			for _, tile := range []int{0, 16, 31, 272, 480, 496, 511} {
				for _, night := range []int{0, 1, 2, 13, 200, 398, 399} {
					if windows, err := airmass.Windows(site, tile, night, least); !slices.Equal(windows, want) || err != api.OK {
						t.Fatalf("Windows(%d, %d, %d, %d): %v, error %d; want %v", site, tile, night, least, windows, err, want)
					}
				}
			}
		}
	}
}

// P11.1 (K4), P1: ErrArg if there is no such site, tile or night, one of them or several, with least heights for which there would be windows and for which there would be none.
func TestWindowsOfNoSiteTileOrNight(t *testing.T) {
	check := func(site, tile, night int) {
		for _, least := range []int{math.MinInt, -1000, 0, 800, 892, 901, math.MaxInt} {
			if windows, err := airmass.Windows(site, tile, night, least); len(windows) != 0 || err != api.ErrArg {
				t.Errorf("Windows(%d, %d, %d, %d): %v, error %d", site, tile, night, least, windows, err)
			}
		}
	}
	tiles, nights := []int{0, 1, 31, 32, 272, 480, 511}, []int{0, 1, 200, 398, 399}
	for _, site := range noSites() {
		for _, tile := range append(noTiles(), tiles...) {
			for _, night := range append(noNights(), nights...) {
				check(site, tile, night)
			}
		}
	}
	for site := range 16 {
		for _, tile := range noTiles() {
			for _, night := range append(noNights(), nights...) {
				check(site, tile, night)
			}
		}
		for _, tile := range tiles {
			for _, night := range noNights() {
				check(site, tile, night)
			}
		}
	}
}
