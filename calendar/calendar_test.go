package calendar_test

import (
	"math"
	"strings"
	"testing"

	"observatory/api"
	"observatory/calendar"
)

// noMoments are numbers that are no moments.
func noMoments() []int {
	return []int{
		-1, -2, -95, -96, -97, -38399, -38400, -1 << 31, -1<<31 - 1, -1 << 32, math.MinInt + 38399, math.MinInt + 1, math.MinInt,
		38400, 38401, 38495, 38496, 76799, 1 << 16, 1<<31 - 1, 1 << 31, 1 << 32, 1<<32 + 1, math.MaxInt - 1, math.MaxInt,
	}
}

// P9.1 (I1): the first and the last nights and slots, and the examples.
func TestMoment(t *testing.T) {
	for _, x := range [][3]int{{0, 0, 0}, {0, 1, 1}, {0, 95, 95}, {1, 0, 96}, {1, 1, 97}, {1, 95, 191}, {2, 0, 192}, {12, 95, 1247}, {200, 48, 19248}, {398, 95, 38303}, {399, 0, 38304}, {399, 94, 38398}, {399, 95, 38399}} {
		if m, err := calendar.Moment(x[0], x[1]); m != x[2] || err != api.OK {
			t.Errorf("Moment(%d, %d): %d, error %d; want %d", x[0], x[1], m, err, x[2])
		}
		if night, slot, err := calendar.Split(x[2]); night != x[0] || slot != x[1] || err != api.OK {
			t.Errorf("Split(%d): %d, %d, error %d; want %d, %d", x[2], night, slot, err, x[0], x[1])
		}
	}
}

// P9.1 (I1), P1: ErrArg for nights and slots that there are not, also where the sum would be a moment.
func TestMomentOfNoNightOrNoSlot(t *testing.T) {
	numbers := []int{math.MinInt, math.MinInt + 1, -1 << 32, -400, -96, -2, -1, 0, 1, 12, 95, 96, 97, 192, 399, 400, 401, 1 << 32, 1<<58 + 1, math.MaxInt / 96, math.MaxInt/96 + 1, math.MaxInt - 1, math.MaxInt}
	for _, night := range numbers {
		for _, slot := range numbers {
			want, wantErr := 0, api.ErrArg
			if night >= 0 && night <= 399 && slot >= 0 && slot <= 95 {
				want, wantErr = 96*night+slot, api.OK
			}
			if m, err := calendar.Moment(night, slot); m != want || err != wantErr {
				t.Errorf("Moment(%d, %d): %d, error %d; want %d, error %d", night, slot, m, err, want, wantErr)
			}
		}
	}
}

// P9.1 (I1 to I4), P1: ErrArg and zero values for what is no moment, in Next also with angles of all kinds.
func TestNoMoments(t *testing.T) {
	for _, m := range noMoments() {
		if night, slot, err := calendar.Split(m); night != 0 || slot != 0 || err != api.ErrArg {
			t.Errorf("Split(%d): %d, %d, error %d", m, night, slot, err)
		}
		if angle, err := calendar.Sidereal(m); angle != 0 || err != api.ErrArg {
			t.Errorf("Sidereal(%d): %d, error %d", m, angle, err)
		}
		if text, err := calendar.Text(m); text != "" || err != api.ErrArg {
			t.Errorf("Text(%d): %q, error %d", m, text, err)
		}
		for _, angle := range append(noAngles(), 0, 504, 564, 565, 5759) {
			if next, err := calendar.Next(m, angle); next != 0 || err != api.ErrArg {
				t.Errorf("Next(%d, %d): %d, error %d", m, angle, next, err)
			}
		}
	}
}

// P9.1 (I2): angles of the first slots and nights, of the last ones, and those that pass 5760.
func TestSidereal(t *testing.T) {
	for _, x := range [][2]int{
		{0, 0}, {1, 60}, {2, 120}, {95, 5700}, {96, 16}, {97, 76}, {191, 5716}, {192, 32}, {1247, 132}, {1246, 72}, {1245, 12}, {1244, 5712},
		{96*3 + 95, 5748}, {96*4 + 95, 4}, {96*359 + 0, 5744}, {96*360 + 0, 0}, {96*359 + 1, 44}, {96*399 + 0, 624}, {38398, 504}, {38399, 564}, {9607, 2020},
	} {
		if angle, err := calendar.Sidereal(x[0]); angle != x[1] || err != api.OK {
			t.Errorf("Sidereal(%d): %d, error %d; want %d", x[0], angle, err, x[1])
		}
	}
}

// P9.1 (I3), P9.4: strings of moments with numbers of one to three digits.
func TestTextAndParse(t *testing.T) {
	for m, text := range map[int]string{
		0: "0.0", 9: "0.9", 10: "0.10", 95: "0.95", 96: "1.0", 1247: "12.95", 9*96 + 9: "9.9", 10*96 + 10: "10.10", 9600: "100.0", 9607: "100.7", 199*96 + 90: "199.90", 34560: "360.0", 38304: "399.0", 38399: "399.95",
	} {
		if got, err := calendar.Text(m); got != text || err != api.OK {
			t.Errorf("Text(%d): %q, error %d; want %q", m, got, err, text)
		}
		if got, err := calendar.Parse(text); got != m || err != api.OK {
			t.Errorf("Parse(%q): %d, error %d; want %d", text, got, err, m)
		}
	}
}

// P9.1 (I3), P9.4, P1: strings of no moment.
func TestParseOfNoMoment(t *testing.T) {
	nines, zeros := strings.Repeat("9", 100000), strings.Repeat("0", 100000)
	for _, text := range []string{
		"", ".", "..", "...", "0", "1", "96", "1247", "1.", ".1", "0.", ".0", "12.", ".95", "1..1", "1.1.", ".1.1", "1.1.1", "1.1.x", "0.0.0", "12.95.", "12.95..",
		"012.5", "00.0", "0.00", "12.05", "12.095", "000.0", "01.1", "1.01", "0012.95", "12.0095", "-0.0", "0.-0", "+0.0", "0.+0",
		"-1.0", "1.-1", "+1.0", "1.+1", "-1.-1", "--1.0", "- 1.0", "-1.96", "-1.97", "1.-96", "-400.0", "1.-0",
		" 1.1", "1.1 ", "1 .1", "1. 1", "1 1", " ", " . ", "\t1.1", "1.1\n", "1.1\r\n", "\n1.1", "1.1\x00", "\x001.1", "1\x00.1", "1.\x001", "\u00a01.1",
		"1,1", "1:1", "1-1", "1/1", "1;1", "1_1", "11", "1.1a", "a1.1", "1a.1", "1.a1", "a.b", "x.0", "0.x", "0x1.0", "0.0x1", "0b1.0", "0o7.0", "1e1.0", "1.1e1", "1_0.1", "1.1_0", "1.5f", "1'0.1", "Inf.0", "NaN.0", "\"1.1\"", "(1.1)",
		"400.0", "400.95", "401.0", "999.0", "1000.0", "4000.0", "12.96", "0.96", "399.96", "12.97", "12.99", "12.100", "12.950", "400.96", "0.38399", "38399.0",
		"9223372036854775807.0", "9223372036854775808.0", "18446744073709551616.0", "18446744073709551617.1", "4294967296.0", "0.9223372036854775807", "0.9223372036854775808", "0.18446744073709551616", "1.18446744073709551617", "-9223372036854775808.0", "-9223372036854775809.0", "0.-9223372036854775808", "0.4294967296",
		"1٫1", "1。1", "١.١", "１.1", "1.１", "1.1\u0301", "1．1", "\xff", "1.1\xff", "\xb1.\xb1", "/.0", ":.0", "0./", "0.:", "1/.0", "1:.0",
		nines + ".0", "0." + nines, zeros + ".0", "0." + zeros, zeros + "1.1", nines, strings.Repeat(".", 100000), "1.1" + strings.Repeat(" ", 100000), strings.Repeat("1.", 50000) + "1", strings.Repeat("x", 100000),
	} {
		if m, err := calendar.Parse(text); m != 0 || err != api.ErrSyntax {
			t.Errorf("Parse(%.40q): %d, error %d", text, m, err)
		}
	}
}

// P9.1 (I4), P9.6: moments from which Next returns the moment itself, the slots of the next nights, the angles between slots, and the last moments.
func TestNext(t *testing.T) {
	for _, x := range [][3]int{
		{0, 0, 0}, {0, 5701, 0}, {0, 5759, 0}, {0, 5700, 95}, {0, 1, 1}, {0, 59, 1}, {0, 60, 1}, {0, 61, 2}, {1, 0, 96}, {1, 1, 1}, {1, 60, 1}, {1, 61, 2}, {1, 5759, 96}, {95, 5641, 95}, {95, 5700, 95}, {95, 5640, 190}, {95, 5701, 191}, {95, 5716, 191}, {95, 5717, 96},
		{96, 16, 96}, {96, 17, 97}, {96, 0, 96}, {96, 5717, 96}, {96, 5716, 191}, {97, 16, 192}, {97, 0, 192}, {193, 0, 288}, {288, 0, 288}, {289, 0, 479}, {479, 0, 479}, {480, 0, 575}, {1247, 132, 1247}, {1248, 132, 1343},
		{0, 3000, 50}, {50, 3000, 50}, {51, 3000, 146}, {38304, 624, 38304}, {38304, 564, 38399}, {38304, 565, 38304}, {38303, 565, 38304}, {38398, 504, 38398}, {38398, 505, 38399}, {38398, 564, 38399}, {38399, 564, 38399}, {38399, 505, 38399}, {38399, 530, 38399},
	} {
		if next, err := calendar.Next(x[0], x[1]); next != x[2] || err != api.OK {
			t.Errorf("Next(%d, %d): %d, error %d; want %d", x[0], x[1], next, err, x[2])
		}
	}
}

// P9.1 (I4), P1: ErrRange if no moment from one on reaches an angle.
func TestNextAfterTheLastOne(t *testing.T) {
	for _, x := range [][2]int{{38399, 0}, {38399, 504}, {38399, 565}, {38399, 5759}, {38399, 624}, {38398, 444}, {38398, 565}, {38305, 624}, {38305, 565}, {38306, 625}, {38350, 3323}} {
		if next, err := calendar.Next(x[0], x[1]); next != 0 || err != api.ErrRange {
			t.Errorf("Next(%d, %d): %d, error %d", x[0], x[1], next, err)
		}
	}
}

func noAngles() []int {
	return []int{math.MinInt, math.MinInt + 1, math.MinInt + 5760, -1 << 32, -5761, -5760, -5759, -60, -59, -2, -1, 5760, 5761, 5819, 11519, 11520, 1 << 32, math.MaxInt - 5760, math.MaxInt - 1, math.MaxInt}
}

// P9.1 (I4), P1: ErrArg for what is no angle, also at the last moments, which reach hardly any.
func TestNextOfNoAngle(t *testing.T) {
	for _, angle := range noAngles() {
		for _, m := range []int{0, 1, 95, 96, 20000, 38304, 38305, 38398, 38399} {
			if next, err := calendar.Next(m, angle); next != 0 || err != api.ErrArg {
				t.Errorf("Next(%d, %d): %d, error %d", m, angle, next, err)
			}
		}
	}
}
