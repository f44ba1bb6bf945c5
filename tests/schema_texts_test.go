package tests

import (
	"fmt"
	"regexp"
	"strings"
	"testing"
	"time"

	"loop.example/g00416/impl"
)

var numberPattern = regexp.MustCompile(`^-?(0|[1-9][0-9]*)(\.[0-9]+)?$`)

func numberByPattern(text string) bool { return len(text) <= 16 && numberPattern.MatchString(text) }

func TestNumberRight(t *testing.T) {
	for _, text := range []string{
		"0", "-0", "1", "9", "-1", "10", "-10", "100", "0.5", "-0.5", "0.0", "-0.0", "1.0", "1.50", "-1.50", "0.00001", "10.01", "907",
		"1234567890123456", "-123456789012345", "12345678901234.5", "-1.2345678901234", "0.12345678901234", "9999999999999999", "1.00000000000000",
	} {
		same(t, named("NumberRight", text), impl.NumberRight(text), true)
		same(t, named("the pattern", text), numberByPattern(text), true)
	}
	for _, text := range []string{
		"", "-", ".", "-.", "--1", "-", "00", "01", "-00", "-01", "00.5", "01.5", ".5", "-.5", "5.", "-5.", "0.", "1.2.3", "1..2", "1.-2", "1.+2", "+1", "+0", "1-", "1+", "-+1",
		" ", " 1", "1 ", "- 1", "1 2", "1. 5", "1,5", "1e5", "1E5", "0x1", "1_0", "a", "1a", "a1", "inf", "NaN", "١", "1\x00", "1\r", "\n1", "1/", "1:",
		"12345678901234567", "-1234567890123456", "1234567890123.456", "-1.23456789012345", "0.123456789012345", strings.Repeat("0", 17), strings.Repeat("1", 20), strings.Repeat("1", impl.MaxBytes), huge(), strings.Repeat("1", impl.MaxBytes+1),
	} {
		same(t, named("NumberRight", text), impl.NumberRight(text), false)
		same(t, named("the pattern", text), numberByPattern(text), false)
	}
}

func TestNumberRightEachText(t *testing.T) {
	eachText("-+.019 ", 6, func(text string) {
		if impl.NumberRight(text) != numberByPattern(text) {
			t.Errorf("NumberRight(%q) is %v", text, impl.NumberRight(text))
		}
	})
	for b := range 256 {
		for _, text := range []string{"%", "1%", "%1", "-%", "1.%", "1%1", "10.5%"} {
			text = strings.Replace(text, "%", string([]byte{byte(b)}), 1)
			if impl.NumberRight(text) != numberByPattern(text) {
				t.Errorf("NumberRight(%q) is %v", text, impl.NumberRight(text))
			}
		}
	}
	for bytes := 14; bytes <= 18; bytes++ {
		for _, ahead := range []string{"", "-", "1.", "0.", "-7.", "-0."} {
			text := ahead + strings.Repeat("5", bytes-len(ahead))
			same(t, named("NumberRight", text), impl.NumberRight(text), bytes <= 16)
		}
	}
}

// dayByCalendar: is there such a day of a year of 1800 on?
func dayByCalendar(year int, month int, day int) bool {
	if year < 1800 {
		return false
	}
	at := time.Date(year, time.Month(month), day, 0, 0, 0, 0, time.UTC)
	return at.Year() == year && int(at.Month()) == month && at.Day() == day
}

func TestDayRightEachDay(t *testing.T) {
	years := []int{0, 1, 999, 1000, 1600, 1799, 1800, 1801, 1804, 1896, 1900, 1904, 1999, 2000, 2001, 2020, 2023, 2024, 2025, 2026, 2100, 2200, 2300, 2400, 8000, 9996, 9999}
	for _, year := range years {
		for month := 0; month <= 99; month++ {
			for day := 0; day <= 99; day++ {
				text := fmt.Sprintf("%04d%02d%02d", year, month, day)
				if impl.DayRight(text) != dayByCalendar(year, month, day) {
					t.Errorf("DayRight(%q) is %v", text, impl.DayRight(text))
				}
			}
		}
	}
	for year := range 10000 {
		same(t, "February", impl.DayRight(fmt.Sprintf("%04d0229", year)), dayByCalendar(year, 2, 29))
		same(t, "May", impl.DayRight(fmt.Sprintf("%04d0531", year)), year >= 1800)
	}
}

func TestDayRight(t *testing.T) {
	for text, want := range map[string]bool{
		"18000101": true, "17991231": false, "19000228": true, "19000229": false, "20000229": true, "20000230": false, "20230228": true, "20230229": false, "20240229": true, "20240230": false,
		"20240131": true, "20240132": false, "20240331": true, "20240332": false, "20240430": true, "20240431": false, "20240531": true, "20240532": false, "20240630": true, "20240631": false,
		"20240731": true, "20240732": false, "20240831": true, "20240832": false, "20240930": true, "20240931": false, "20241031": true, "20241032": false, "20241130": true, "20241131": false,
		"20241231": true, "20241232": false, "20240001": false, "20241301": false, "20240100": false, "20240101": true, "99991231": true, "00000101": false,
		"": false, "2": false, "2024": false, "202401": false, "2024010": false, "202401011": false, "2024010100": false, "240101": false, "2024-1-1": false, "2024-01-01": false,
		"+0240101": false, "-0240101": false, "2024+101": false, "2024-101": false, "202401+1": false, "202401-1": false, "2024 101": false, "202401 1": false, " 2024010": false, "2024010 ": false,
		"2_240101": false, "2024_101": false, "0x240101": false, "2e240101": false, "20240101\r": false, "2024010a": false, "２0240": false, huge(): false,
	} {
		same(t, named("DayRight", text), impl.DayRight(text), want)
	}
	same(t, "DayRight of as many bytes as may be", impl.DayRight(strings.Repeat("20240101", 1000)), false)
}

func TestDayRightEachByte(t *testing.T) {
	for at := range 8 {
		for b := range 256 {
			raw := []byte("20241010")
			raw[at] = byte(b)
			want := false
			if b >= '0' && b <= '9' {
				var year, month, day int
				fmt.Sscanf(string(raw), "%4d%2d%2d", &year, &month, &day)
				want = dayByCalendar(year, month, day)
			}
			same(t, named("DayRight", string(raw)), impl.DayRight(string(raw)), want)
		}
	}
}

// clockPatterns: what may stand behind the day, at each version.
var clockPatterns = map[int64]*regexp.Regexp{
	1: regexp.MustCompile(`^(([01][0-9]|2[0-3])([0-5][0-9]([0-5][0-9])?)?)?$`),
	2: regexp.MustCompile(`^(([01][0-9]|2[0-3])([0-5][0-9]([0-5][0-9](\.[0-9]{1,4})?)?)?)?$`),
	3: regexp.MustCompile(`^(([01][0-9]|2[0-3])([0-5][0-9]([0-5][0-9](\.[0-9]{1,4})?)?)?)?([-+](0[0-9]|1[0-4])[0-5][0-9])?$`),
}

func clockByPattern(version int64, behind string) bool {
	pattern, ok := clockPatterns[version]
	return ok && pattern.MatchString(behind)
}

// checkClock: behind a day this is a time of just the versions whose pattern it has; behind no day it is of none.
func checkClock(t *testing.T, behind string) {
	t.Helper()
	for version := int64(-1); version <= 5; version++ {
		if got, want := impl.TimeRight(version, "20240229"+behind), clockByPattern(version, behind); got != want {
			t.Errorf("TimeRight(%d, %q): got %v", version, "20240229"+behind, got)
		}
		if impl.TimeRight(version, "20230229"+behind) || impl.TimeRight(version, behind) && len(behind) < 8 {
			t.Errorf("TimeRight(%d, %q) is right without a day", version, behind)
		}
	}
}

// timeCase: a text behind a day, and the versions of which it is a time.
type timeCase struct {
	behind, versions string
}

func timeCases() []timeCase {
	return []timeCase{
		{"", "123"}, {"1", ""}, {"12", "123"}, {"123", ""}, {"1234", "123"}, {"12345", ""}, {"123456", "123"}, {"1234567", ""}, {"12345678", ""},
		{"00", "123"}, {"23", "123"}, {"24", ""}, {"99", ""}, {"2359", "123"}, {"2360", ""}, {"2400", ""}, {"0000", "123"}, {"235959", "123"}, {"235960", ""}, {"236000", ""}, {"240000", ""}, {"000000", "123"},
		{"123000.", ""}, {"123000.1", "23"}, {"123000.12", "23"}, {"123000.123", "23"}, {"123000.1234", "23"}, {"123000.12345", ""}, {"123000.0", "23"}, {"123000.0000", "23"}, {"123000.00000", ""},
		{".", ""}, {".1", ""}, {"12.", ""}, {"12.1", ""}, {"1230.1", ""}, {"12300.1", ""}, {"1230001.1", ""}, {"123060.1", ""}, {"123000.a", ""}, {"123000.1.1", ""}, {"123000..1", ""}, {"123000.-1", ""}, {"123000.+1", ""}, {"123000,1", ""}, {"1230001", ""},
		{"+0100", "3"}, {"-0100", "3"}, {"12+0100", "3"}, {"1230-0100", "3"}, {"123000+0100", "3"}, {"123000.1+0100", "3"}, {"123000.1234-0100", "3"}, {"123000.12345-0100", ""}, {"123000.+0100", ""}, {"1230.1+0100", ""}, {"123+0100", ""}, {"1+0100", ""},
		{"+1400", "3"}, {"-1400", "3"}, {"+1459", "3"}, {"-1459", "3"}, {"+1500", ""}, {"-1500", ""}, {"+1460", ""}, {"-0060", ""}, {"+0059", "3"}, {"+0000", "3"}, {"-0000", "3"}, {"+9900", ""}, {"+2400", ""},
		{"+", ""}, {"-", ""}, {"+0", ""}, {"+01", ""}, {"+010", ""}, {"+01000", ""}, {"-01", ""}, {"-010000", ""}, {"12+01", ""}, {"12+010", ""}, {"12+01000", ""}, {"123000.1+1500", ""}, {"123000-1260", ""},
		{"0100", "123"}, {"+01:00", ""}, {"+0100+0100", ""}, {"+-100", ""}, {"++100", ""}, {"+01+0", ""}, {"+01 0", ""}, {"+ 100", ""}, {"Z", ""}, {"*0100", ""}, {",0100", ""}, {"/0100", ""}, {"12=0100", ""},
		{" ", ""}, {" 12", ""}, {"12 ", ""}, {"1 ", ""}, {" 1", ""}, {"+1", ""}, {"-1", ""}, {"12+1", ""}, {"1230-1", ""}, {"1_", ""}, {"12:30", ""}, {"\r", ""}, {"12\n", ""}, {"123000.1\r", ""}, {"24+0100", ""}, {"1260+0100", ""},
		{"0100-0100+0100", ""}, {"123000.1+0100.1", ""}, {"+0100.1", ""}, {"+0100" + "12", ""},
	}
}

func TestTimeRight(t *testing.T) {
	for _, c := range timeCases() {
		for version := int64(1); version <= 3; version++ {
			want := strings.Contains(c.versions, fmt.Sprint(version))
			same(t, fmt.Sprintf("TimeRight(%d, %q)", version, "18000101"+c.behind), impl.TimeRight(version, "18000101"+c.behind), want)
		}
		checkClock(t, c.behind)
		for _, version := range noVersions() {
			same(t, named("TimeRight of no version", c.behind), impl.TimeRight(version, "18000101"+c.behind), false)
		}
	}
	for _, text := range []string{"", "1", "2024010", "17991231", "20241301", "2024013212", "202402301230", "2024", "202413011230", "a0240101", "+0240101", "2024010+0100", "12", huge(), "20240101" + huge(), strings.Repeat("20240101", 1000), "20240101" + strings.Repeat("1", impl.MaxBytes-8), "20240101123000." + strings.Repeat("1", impl.MaxBytes), " 20240101", "20240101 "} {
		for _, version := range anyVersions() {
			same(t, named("TimeRight", text), impl.TimeRight(version, text), false)
		}
	}
}

func TestTimeRightEachNumber(t *testing.T) {
	for n := range 100 {
		for _, form := range []string{"%02d", "12%02d", "1230%02d", "1230%02d.5", "%02d00+0100", "12%02d+0100", "1230%02d+0100", "+%02d00", "-%02d00", "+01%02d", "-14%02d", "123000+%02d59", "123000.1234-00%02d", "123000.%02d", "123000.00%02d"} {
			checkClock(t, fmt.Sprintf(form, n))
		}
	}
	for b := range 256 {
		for _, form := range []string{"%", "1%", "%1", "12%", "%12", "123%", "1230%", "12303%", "123030%", "123030%1", "123030.%", "123030.1%", "%0100", "+%100", "+0%00", "+01%0", "+010%", "12%0100", "123030.1%0100", "+0100%"} {
			checkClock(t, strings.Replace(form, "%", string([]byte{byte(b)}), 1))
		}
	}
}

func TestTimeRightEachText(t *testing.T) {
	eachText("015+.", 7, func(behind string) { checkClock(t, behind) })
	eachText("06.-", 5, func(behind string) {
		checkClock(t, "123000"+behind)
		checkClock(t, "2359"+behind)
		checkClock(t, "123000.5"+behind)
		checkClock(t, "+1"+behind)
	})
}
