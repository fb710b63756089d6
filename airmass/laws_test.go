package airmass_test

import (
	"fmt"
	"math/rand"
	"regexp"
	"slices"
	"sync"
	"testing"

	"observatory/airmass"
	"observatory/api"
	"observatory/calendar"
)

// firstNights are so many nights that there is a moment with each sidereal angle in them.
const firstNights = 15

// hourAt returns the hour angle of a column, which must have one.
func hourAt(t *testing.T, column, m int) int {
	hour, err := airmass.Hour(column, m)
	if err != api.OK || hour < -2880 || hour > 2879 {
		t.Fatalf("Hour(%d, %d): %d, error %d", column, m, hour, err)
	}
	return hour
}

// heightAt returns the height of a tile, which must have one.
func heightAt(t *testing.T, site, tile, m int) int {
	height, err := airmass.Height(site, tile, m)
	if err != api.OK {
		t.Fatalf("Height(%d, %d, %d): %d, error %d", site, tile, m, height, err)
	}
	return height
}

// windowsOf returns the windows of a tile, which must have some or none.
func windowsOf(t *testing.T, site, tile, night, least int) []api.Span {
	windows, err := airmass.Windows(site, tile, night, least)
	if err != api.OK {
		t.Fatalf("Windows(%d, %d, %d, %d): %v, error %d", site, tile, night, least, windows, err)
	}
	return windows
}

// difference returns how far two numbers are apart.
func difference(a, b int) int {
	if a < b {
		return b - a
	}
	return a - b
}

// turned returns the number from -2880 to 2879 at which one arrives in steps of a turn.
func turned(hour int) int {
	for hour > 2879 {
		hour -= 5760
	}
	for hour < -2880 {
		hour += 5760
	}
	return hour
}

// fallen returns for each absolute value of an hour angle what the height has fallen by: 5 sixteenths more with each unit, counted up.
func fallen() [2881]int {
	var falls [2881]int
	fall, sixteenths := 0, 0
	for i := range falls {
		falls[i] = fall
		sixteenths += 5
		if sixteenths >= 16 {
			sixteenths -= 16
			fall++
		}
	}
	return falls
}

// P11.1 (K1), P11.2: the hour angles of all columns at all moments, from the one of the column 0 at the moment 0 on by turning the sky slot by slot, night by night and column by column.
func TestHoursOfTheTurningSky(t *testing.T) {
	ofNight := -90
	for night := range 400 {
		ofSlot := ofNight
		for slot := range 96 {
			want := ofSlot
			for column := range 32 {
				m := 96*night + slot
				if hour := hourAt(t, column, m); hour != want {
					t.Fatalf("Hour(%d, %d): %d; want %d", column, m, hour, want)
				}
				want = turned(want - 180)
			}
			if want != ofSlot {
				t.Fatalf("behind the column 31 comes the hour angle %d; that of the column 0 is %d", want, ofSlot)
			}
			ofSlot = turned(ofSlot + 60)
		}
		ofNight = turned(ofNight + 16)
	}
}

// P11.2: the next column, behind the last one the first one; the next slot of the night; the same slot of the next night.
func TestHoursFromOneToTheNext(t *testing.T) {
	for m := range 38400 {
		for column := range 32 {
			hour := hourAt(t, column, m)
			if next := hourAt(t, (column+1)%32, m); (hour-next-180)%5760 != 0 {
				t.Fatalf("column %d at %d: %d; the next column: %d", column, m, hour, next)
			}
			if m%96 < 95 {
				if next := hourAt(t, column, m+1); (next-hour-60)%5760 != 0 {
					t.Fatalf("column %d at %d: %d; the next slot: %d", column, m, hour, next)
				}
			}
			if m < 399*96 {
				if next := hourAt(t, column, m+96); (next-hour-16)%5760 != 0 {
					t.Fatalf("column %d at %d: %d; the next night: %d", column, m, hour, next)
				}
			}
		}
	}
}

// P11.1 (K1): the hour angles that there are go in steps of 4 from -2878 to 2878; so 0, -2880 and 2879 are not among them, nor any from which 5 times the absolute value is a multiple of 16.
func TestHoursThatThereAre(t *testing.T) {
	there := map[int]bool{}
	for m := range 38400 {
		for column := range 32 {
			there[hourAt(t, column, m)] = true
		}
	}
	for hour := -2880; hour <= 2879; hour++ {
		if there[hour] != ((hour+2878)%4 == 0) {
			t.Errorf("hour angle %d: %v", hour, there[hour])
		}
		if there[hour] && 5*difference(hour, 0)%16 == 0 {
			t.Errorf("5 times the absolute value of the hour angle %d is a multiple of 16", hour)
		}
	}
}

// P11.1 (K2), P11.3: the heights of all tiles from all sites at all sidereal angles, with falls that are counted up.
func TestAllHeights(t *testing.T) {
	falls := fallen()
	least, most := 900, -900
	for m := range 96 * firstNights {
		for column := range 32 {
			fall := falls[difference(hourAt(t, column, m), 0)]
			for band := range 16 {
				for site := range 16 {
					want := 900 - 50*difference(band, site) - fall
					height := heightAt(t, site, 32*band+column, m)
					if height != want {
						t.Fatalf("Height(%d, %d, %d): %d; want %d", site, 32*band+column, m, height, want)
					}
					least, most = min(least, height), max(most, height)
				}
			}
		}
	}
	if least != -749 || most != 900 {
		t.Errorf("heights from %d to %d", least, most)
	}
}

// P11.3: heights depend on nothing but two absolute values, and do not increase with either of them.
func TestHeightsFall(t *testing.T) {
	const none = 1000
	var heights [16][2881]int
	for bands := range heights {
		for hour := range heights[bands] {
			heights[bands][hour] = none
		}
	}
	for m := 0; m < 38400; m += 11 {
		for tile := range 512 {
			hour := difference(hourAt(t, tile%32, m), 0)
			for site := m % 3; site < 16; site += 3 {
				height := heightAt(t, site, tile, m)
				known := &heights[difference(tile/32, site)][hour]
				if *known == none {
					*known = height
				}
				if height != *known || height > 900 || height < -750 {
					t.Fatalf("Height(%d, %d, %d): %d; before: %d", site, tile, m, height, *known)
				}
			}
		}
	}
	for bands := range heights {
		last := none
		for hour, height := range heights[bands] {
			if height == none {
				continue
			}
			if height > last || bands > 0 && height > heights[bands-1][hour] {
				t.Fatalf("%d bands away and with an hour angle of %d the height is %d", bands, hour, height)
			}
			last = height
		}
	}
}

// P11.4: at each moment all tiles have the heights that they had at the first moment with its sidereal angle.
func TestEqualAnglesEqualHeights(t *testing.T) {
	first := map[int]int{}
	for m := range 38400 {
		angle, err := calendar.Sidereal(m)
		if err != api.OK {
			t.Fatalf("Sidereal(%d): error %d", m, err)
		}
		before, known := first[angle]
		if !known {
			first[angle] = m
			continue
		}
		site := (m + m/96) % 16
		for tile := range 512 {
			if height := heightAt(t, site, tile, m); height != heightAt(t, site, tile, before) {
				t.Fatalf("tile %d from %d: %d at %d, %d at %d", tile, site, height, m, heightAt(t, site, tile, before), before)
			}
		}
	}
	if len(first) != 96*firstNights {
		t.Errorf("%d sidereal angles", len(first))
	}
}

// P11.1 (K3), P11.5: the quotients of all heights, by multiplying; they go from 1000 to 9000.
func TestAllAirmasses(t *testing.T) {
	last := 9000
	for height := 100; height <= 900; height++ {
		mass, err := airmass.Airmass(height)
		if err != api.OK || mass*height > 900000 || (mass+1)*height <= 900000 {
			t.Fatalf("Airmass(%d): %d, error %d", height, mass, err)
		}
		if mass > last || mass < 1000 {
			t.Fatalf("Airmass(%d): %d; of the height before: %d", height, mass, last)
		}
		last = mass
	}
	if last != 1000 {
		t.Errorf("the last one is %d", last)
	}
}

// P11.1 (K2, K3), P1: each height of a tile has an airmass, or is too low.
func TestAirmassOfHeights(t *testing.T) {
	for m := range 38400 {
		height := heightAt(t, m%16, m*7%512, m)
		mass, err := airmass.Airmass(height)
		if height >= 100 && (err != api.OK || mass < 1000 || mass > 9000) || height < 100 && (err != api.ErrLow || mass != 0) {
			t.Fatalf("Airmass(%d): %d, error %d", height, mass, err)
		}
	}
}

// runs finds the windows in a picture of a night.
var runs = regexp.MustCompile("x+")

// checkWindows compares the windows with those in a picture of the night, which has an x for each slot in which the tile is high enough.
func checkWindows(t *testing.T, site, tile, night, least int) {
	var picture [96]byte
	for slot := range picture {
		picture[slot] = '.'
		if heightAt(t, site, tile, 96*night+slot) >= least {
			picture[slot] = 'x'
		}
	}
	var want []api.Span
	for _, run := range runs.FindAllIndex(picture[:], -1) {
		want = append(want, api.Span{From: run[0], Until: run[1] - 1})
	}
	if windows := windowsOf(t, site, tile, night, least); !slices.Equal(windows, want) {
		t.Fatalf("Windows(%d, %d, %d, %d): %v; want %v for %s", site, tile, night, least, windows, want, picture[:])
	}
}

// P11.1 (K4), P11.6: all least heights for some tiles.
func TestWindowsForAllLeastHeights(t *testing.T) {
	source := rand.New(rand.NewSource(11))
	tiles := [][3]int{{0, 0, 0}, {0, 0, 399}, {15, 511, 0}, {15, 511, 399}, {0, 511, 2}, {15, 0, 5}, {8, 272, 9}, {7, 17, 17}, {0, 31, 6}}
	for range 15 {
		tiles = append(tiles, [3]int{source.Intn(16), source.Intn(512), source.Intn(400)})
	}
	for _, x := range tiles {
		for least := -755; least <= 905; least++ {
			checkWindows(t, x[0], x[1], x[2], least)
		}
	}
}

// P11.1 (K4), P11.6: all tiles, sites and nights take part, with least heights of slots of the night, which are just reached, or just missed by 1.
func TestWindowsOfAllTiles(t *testing.T) {
	source := rand.New(rand.NewSource(12))
	for tile := range 512 {
		for site := range 16 {
			night := (16*tile + site) % 400
			least := heightAt(t, site, tile, 96*night+source.Intn(96))
			for extra := -1; extra <= 1; extra++ {
				checkWindows(t, site, tile, night, least+extra)
			}
		}
	}
}

// P11.6: slots are in a window exactly if the height is not less than the least one; windows do not touch each other; those for a greater least height are within those for a lesser one.
func TestWindowsWithinWindows(t *testing.T) {
	source := rand.New(rand.NewSource(13))
	for range 300 {
		site, tile, night := source.Intn(16), source.Intn(512), source.Intn(400)
		outer := spans(0, 95)
		for least := -760; least <= 910; least += 1 + source.Intn(12) {
			inner := windowsOf(t, site, tile, night, least)
			var high [96]bool
			last := -2
			for _, window := range inner {
				if window.From <= last+1 || window.Until < window.From || window.Until > 95 {
					t.Fatalf("Windows(%d, %d, %d, %d): %v", site, tile, night, least, inner)
				}
				if !slices.ContainsFunc(outer, func(o api.Span) bool { return o.From <= window.From && window.Until <= o.Until }) {
					t.Fatalf("Windows(%d, %d, %d, %d): %v, for a lesser height %v", site, tile, night, least, inner, outer)
				}
				last = window.Until
				for slot := window.From; slot <= window.Until; slot++ {
					high[slot] = true
				}
			}
			for slot := range high {
				if high[slot] != (heightAt(t, site, tile, 96*night+slot) >= least) {
					t.Fatalf("Windows(%d, %d, %d, %d): %v; slot %d", site, tile, night, least, inner, slot)
				}
			}
			outer = inner
		}
		if len(outer) != 0 {
			t.Fatalf("windows %v for a great least height", outer)
		}
	}
}

// P11.7: in each night each column comes within 30 of the meridian, where its tiles are high.
func TestTransit(t *testing.T) {
	for night := range 400 {
		for column := range 32 {
			there := false
			for slot := range 96 {
				m := 96*night + slot
				if difference(hourAt(t, column, m), 0) > 30 {
					continue
				}
				there = true
				for band := range 16 {
					for site := range 16 {
						if height := heightAt(t, site, 32*band+column, m); height < 891-50*difference(band, site) {
							t.Fatalf("Height(%d, %d, %d): %d", site, 32*band+column, m, height)
						}
					}
				}
			}
			if !there {
				t.Fatalf("column %d does not pass in the night %d", column, night)
			}
		}
	}
}

// P3: what has been returned is not changed by later calls, nor are later results by changes to it.
func TestWindowsReturnsNewMemory(t *testing.T) {
	kept := windowsOf(t, 0, 0, 0, 800)
	want := spans(0, 6, 93, 95)
	for night := range 400 {
		windowsOf(t, 0, 0, night, 450)
	}
	if !slices.Equal(kept, want) {
		t.Errorf("the result has become %v", kept)
	}
	kept = append(kept[:0], spans(7, 7, 7, 7)...)
	if windows := windowsOf(t, 0, 0, 0, 800); !slices.Equal(windows, want) {
		t.Errorf("%v after the change to %v", windows, kept)
	}
}

// answers are the results of all functions for some arguments.
type answers struct {
	hour, height, mass int
	windows            string
	errors             [4]api.Errno
}

type question struct{ site, column, tile, m, night, least int }

func ask(q question) answers {
	var x answers
	x.hour, x.errors[0] = airmass.Hour(q.column, q.m)
	x.height, x.errors[1] = airmass.Height(q.site, q.tile, q.m)
	x.mass, x.errors[2] = airmass.Airmass(q.least)
	windows, err := airmass.Windows(q.site, q.tile, q.night, q.least)
	x.windows, x.errors[3] = fmt.Sprint(windows), err
	return x
}

// P3: equal arguments yield equal results, whatever was called before, and in several goroutines at once.
func TestEqualArgumentsEqualResults(t *testing.T) {
	source := rand.New(rand.NewSource(14))
	questions := make([]question, 2000)
	want := make([]answers, len(questions))
	for i := range questions {
		questions[i] = question{source.Intn(18) - 1, source.Intn(36) - 2, source.Intn(532) - 10, source.Intn(39000) - 300, source.Intn(420) - 10, source.Intn(1700) - 760}
		want[i] = ask(questions[i])
	}
	var group sync.WaitGroup
	for worker := range 8 {
		group.Go(func() {
			for _, i := range rand.New(rand.NewSource(int64(worker))).Perm(len(questions)) {
				if got := ask(questions[i]); got != want[i] {
					t.Errorf("%+v: %+v; before: %+v", questions[i], got, want[i])
				}
			}
		})
	}
	group.Wait()
}
