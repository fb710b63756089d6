package calendar_test

import (
	"math"
	"math/rand"
	"strconv"
	"strings"
	"sync"
	"testing"

	"observatory/api"
	"observatory/calendar"
)

// angleOf returns the sidereal angle of a moment, which must have one.
func angleOf(t *testing.T, m int) int {
	t.Helper()
	angle, err := calendar.Sidereal(m)
	if err != api.OK || angle < 0 || angle > 5759 {
		t.Fatalf("Sidereal(%d): %d, error %d", m, angle, err)
	}
	return angle
}

// stringOf returns the string of a moment, which must have one.
func stringOf(t *testing.T, m int) string {
	t.Helper()
	text, err := calendar.Text(m)
	if err != api.OK {
		t.Fatalf("Text(%d): %q, error %d", m, text, err)
	}
	return text
}

// allStrings returns the strings of all moments with their moments, counted up night by night and slot by slot.
func allStrings() map[string]int {
	all := map[string]int{}
	for night := range 400 {
		for slot := range 96 {
			all[strconv.Itoa(night)+"."+strconv.Itoa(slot)] = len(all)
		}
	}
	return all
}

// P9.1 (I1), P9.2: all moments are counted night by night and slot by slot, and Moment and Split undo each other.
func TestMomentAndSplitUndoEachOther(t *testing.T) {
	count := 0
	for night := range 400 {
		for slot := range 96 {
			m, err := calendar.Moment(night, slot)
			if m != count || err != api.OK {
				t.Fatalf("Moment(%d, %d): %d, error %d; want %d", night, slot, m, err, count)
			}
			n, s, err := calendar.Split(m)
			if n != night || s != slot || err != api.OK {
				t.Fatalf("Split(%d): %d, %d, error %d; want %d, %d", m, n, s, err, night, slot)
			}
			count++
		}
	}
	if count-1 != api.MaxMoment {
		t.Errorf("%d moments", count)
	}
}

// P9.3: from each slot to the next one, from the last one of a night to the first one of the same, and from each night to the next one.
func TestTurningSky(t *testing.T) {
	for m := range 38400 {
		angle := angleOf(t, m)
		if m%96 != 95 && angleOf(t, m+1) != (angle+60)%5760 {
			t.Fatalf("the angle of %d is %d, of the next slot %d", m, angle, angleOf(t, m+1))
		}
		if m%96 == 95 && angleOf(t, m-95) != (angle+60)%5760 {
			t.Fatalf("the angle of %d is %d, of the first slot of its night %d", m, angle, angleOf(t, m-95))
		}
		if m < 38304 && angleOf(t, m+96) != (angle+16)%5760 {
			t.Fatalf("the angle of %d is %d, in the next night %d", m, angle, angleOf(t, m+96))
		}
	}
}

// P9.1 (I3), P9.4: the strings of all moments, which are different ones, and back.
func TestStringsOfAllMoments(t *testing.T) {
	all := allStrings()
	if len(all) != 38400 {
		t.Fatalf("%d strings", len(all))
	}
	for text, m := range all {
		if got := stringOf(t, m); got != text {
			t.Fatalf("Text(%d): %q; want %q", m, got, text)
		}
		if back, err := calendar.Parse(text); back != m || err != api.OK {
			t.Fatalf("Parse(%q): %d, error %d; want %d", text, back, err, m)
		}
	}
}

// checkParse compares Parse with the table of the strings of all moments.
func checkParse(t *testing.T, all map[string]int, text string) {
	t.Helper()
	wantErr := api.OK
	want, known := all[text]
	if !known {
		wantErr = api.ErrSyntax
	}
	m, err := calendar.Parse(text)
	if m != want || err != wantErr {
		t.Fatalf("Parse(%q): %d, error %d; want %d, error %d", text, m, err, want, wantErr)
	}
	if err == api.OK && stringOf(t, m) != text {
		t.Fatalf("Parse(%q) is %d, whose string is %q", text, m, stringOf(t, m))
	}
}

// P9.1 (I3), P9.4, P1: all texts of up to six bytes from a small alphabet, and of up to two bytes of all.
func TestParseOfAllShortTexts(t *testing.T) {
	all := allStrings()
	var extend func(text, alphabet string, most int)
	extend = func(text, alphabet string, most int) {
		checkParse(t, all, text)
		for i := 0; i < len(alphabet) && len(text) < most; i++ {
			extend(text+alphabet[i:i+1], alphabet, most)
		}
	}
	extend("", "0123569.-+", 6)
	extend("", "0349. _", 6)
	var bytes strings.Builder
	for b := range 256 {
		bytes.WriteByte(byte(b))
	}
	extend("", bytes.String(), 2)
}

// P9.1 (I3), P9.4, P1: strings of moments with a byte that is changed, inserted or missing.
func TestParseOfChangedStrings(t *testing.T) {
	all := allStrings()
	random := rand.New(rand.NewSource(9))
	texts := []string{"0.0", "9.95", "12.95", "99.9", "100.10", "399.95", "360.0"}
	for range 30 {
		texts = append(texts, stringOf(t, random.Intn(38400)))
	}
	for _, text := range texts {
		for at := range len(text) + 1 {
			for b := range 256 {
				checkParse(t, all, text[:at]+string([]byte{byte(b)})+text[at:])
				if at < len(text) {
					checkParse(t, all, text[:at]+string([]byte{byte(b)})+text[at+1:])
				}
			}
			if at < len(text) {
				checkParse(t, all, text[:at]+text[at+1:])
			}
		}
	}
}

// P9.1 (I3), P9.4, P1: two numbers of all kinds with marks of all kinds between them.
func TestParseOfNumbersAndMarks(t *testing.T) {
	all := allStrings()
	var numbers []string
	for n := range 450 {
		numbers = append(numbers, strconv.Itoa(n))
	}
	for _, n := range []int{-1, 999, 1000, 3990, 38399, 38400, 1<<31 - 1, 1 << 32, math.MaxInt, math.MinInt} {
		numbers = append(numbers, strconv.Itoa(n))
	}
	numbers = append(numbers, "", "00", "01", "007", "095", "0399", "9223372036854775808", "18446744073709551616", "18446744073709551711", "340282366920938463463374607431768211456", strings.Repeat("1", 1000), "+1", "-0", " 1", "1 ", "x", "0x1", "1_1")
	for _, night := range numbers {
		for _, slot := range numbers {
			checkParse(t, all, night+"."+slot)
		}
		for _, mark := range []string{"", "..", ". ", " .", ",", ":", "/", "-", "_", ".0.", "\x00"} {
			checkParse(t, all, night+mark+"5")
			checkParse(t, all, "5"+mark+night)
		}
	}
}

// far returns how far a sidereal angle is beyond an angle.
func far(sidereal, angle int) int {
	if sidereal < angle {
		sidereal += 5760
	}
	return sidereal - angle
}

// P9.5: in each night, exactly one slot reaches each angle, and Next names it from the first slot of the night on.
func TestOnceANight(t *testing.T) {
	for night := range 400 {
		first := 96 * night
		var reached [5760]int
		var slots [5760]int
		for slot := range 96 {
			sidereal := angleOf(t, first+slot)
			for angle := sidereal - 59; angle <= sidereal; angle++ {
				reached[(angle+5760)%5760]++
				slots[(angle+5760)%5760] = slot
			}
		}
		for angle := range 5760 {
			if reached[angle] != 1 {
				t.Fatalf("%d slots of night %d reach %d", reached[angle], night, angle)
			}
			if next, err := calendar.Next(first, angle); next != first+slots[angle] || err != api.OK {
				t.Fatalf("Next(%d, %d): %d, error %d; want %d", first, angle, next, err, first+slots[angle])
			}
		}
	}
}

// slotOf returns the slot of a night that reaches an angle: the first one that is not before it.
func slotOf(night, angle int) int {
	late := far(angle, 16*night%5760)
	return (late + 59) / 60 % 96
}

// nextOne returns the moment that Next should return, by the slots that reach the angle in this night and the next one.
func nextOne(m, angle int) (int, api.Errno) {
	night := m / 96
	if slot := slotOf(night, angle); slot >= m%96 {
		return 96*night + slot, api.OK
	}
	if night == 399 {
		return 0, api.ErrRange
	}
	return 96*(night+1) + slotOf(night+1, angle), api.OK
}

func checkNext(t *testing.T, m, angle int) int {
	t.Helper()
	want, wantErr := nextOne(m, angle)
	next, err := calendar.Next(m, angle)
	if next != want || err != wantErr {
		t.Fatalf("Next(%d, %d): %d, error %d; want %d, error %d", m, angle, next, err, want, wantErr)
	}
	return next
}

// P9.1 (I4), P9.6: all angles from some moments on, among them the first and the last ones of nights and of all.
func TestNextForAllAngles(t *testing.T) {
	random := rand.New(rand.NewSource(96))
	moments := []int{0, 1, 2, 94, 95, 96, 97, 190, 191, 192, 19199, 19200, 19201, 34559, 34560, 38207, 38208, 38209, 38210, 38303, 38304, 38305, 38350, 38397, 38398, 38399}
	for range 15 {
		moments = append(moments, random.Intn(38400))
	}
	for _, m := range moments {
		for angle := range 5760 {
			checkNext(t, m, angle)
		}
	}
}

// P9.1 (I4), P9.6: from all moments on, some angles, among them those that Sidereal returns and those next to them.
func TestNextFromAllMoments(t *testing.T) {
	random := rand.New(rand.NewSource(5760))
	for m := range 38400 {
		sidereal := angleOf(t, m)
		for _, more := range []int{0, 1, 59, 60, 61, 5760 - 1, 5760 - 59, 5760 - 60, 5760 - 61} {
			checkNext(t, m, (sidereal+more)%5760)
		}
		checkNext(t, m, 0)
		checkNext(t, m, random.Intn(5760))
	}
}

// P9.6: none of the moments before the next one reaches the angle, this one does, and it is at most 190 moments away.
func TestNoneBeforeTheNextOne(t *testing.T) {
	random := rand.New(rand.NewSource(190))
	for i := range 20000 {
		m, angle := random.Intn(38400), random.Intn(5760)
		if i%2 == 0 && m+96 < 38400 { // an angle that the slot before this one has reached
			angle = (angleOf(t, m) + 5760 - 60 - random.Intn(20)) % 5760
		}
		next, err := calendar.Next(m, angle)
		if err != api.OK {
			next = 38400
		}
		for between := m; between < next; between++ {
			if far(angleOf(t, between), angle) < 60 {
				t.Fatalf("Next(%d, %d): %d, but %d reaches the angle", m, angle, next, between)
			}
		}
		if err == api.OK && (next < m || next-m > 190 || far(angleOf(t, next), angle) >= 60) {
			t.Fatalf("Next(%d, %d): %d", m, angle, next)
		}
	}
}

// P9.6: those that are 190 moments away: the angle was reached in the first slot of this night, and is again in the last one of the next night.
func TestNextAtTheGreatestDistance(t *testing.T) {
	count := 0
	for night := range 399 {
		for angle := range 5760 {
			if slotOf(night, angle) != 0 || slotOf(night+1, angle) != 95 {
				continue
			}
			count++
			m := 96*night + 1
			if next := checkNext(t, m, angle); next != m+190 {
				t.Fatalf("Next(%d, %d): %d", m, angle, next)
			}
			if next := checkNext(t, m-1, angle); next != m-1 {
				t.Fatalf("Next(%d, %d): %d", m-1, angle, next)
			}
		}
	}
	if count != 399*16 { // each night is 16 further
		t.Errorf("%d times", count)
	}
}

// P3: equal arguments yield equal results, in any order and at the same time.
func TestEqualResults(t *testing.T) {
	var group sync.WaitGroup
	for worker := range 4 {
		group.Go(func() {
			random := rand.New(rand.NewSource(3))
			for range 2000 * (worker + 1) {
				m, angle := random.Intn(38400), random.Intn(5760)
				want, wantErr := nextOne(m, angle)
				if next, err := calendar.Next(m, angle); next != want || err != wantErr {
					t.Errorf("Next(%d, %d): %d, error %d", m, angle, next, err)
				}
				text, _ := calendar.Text(m)
				if back, err := calendar.Parse(text); back != m || err != api.OK {
					t.Errorf("Parse(%q): %d, error %d", text, back, err)
				}
			}
		})
	}
	group.Wait()
}
