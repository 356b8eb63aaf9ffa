package tests

import (
	"math"
	"slices"
	"strings"
	"testing"
	"time"

	"loop.example/g00569/impl"
)

// knownDate is the date of a day as the standard library counts it.
func knownDate(day int64) (impl.Date, string) {
	at := time.Unix(day*24*60*60, 0).UTC()
	return impl.Date{Year: int64(at.Year()), Month: int64(at.Month()), Day: int64(at.Day())}, at.Format("2006-01-02")
}

func checkDate(t *testing.T, d impl.Date, day int64, text string) {
	t.Helper()
	if !impl.DateOk(d) {
		t.Errorf("%d is not right", d)
	}
	if got := impl.DayOf(d); got != day {
		t.Errorf("DayOf(%d) = %d, want %d", d, got, day)
	}
	if got := impl.DateOf(day); got != d {
		t.Errorf("DateOf(%d) = %d, want %d", day, got, d)
	}
	if got := impl.DateText(d); got != text {
		t.Errorf("DateText(%d) = %q, want %q", d, got, text)
	}
	if got, ok := impl.ReadDate(text); !ok || got != d {
		t.Errorf("ReadDate(%q) = %d, %t, want %d", text, got, ok, d)
	}
}

func checkNoDate(t *testing.T, d impl.Date) {
	t.Helper()
	if impl.DateOk(d) || impl.DayOf(d) != -1 || impl.DateText(d) != "" {
		t.Errorf("%d, which is not right: %t, %d, %q", d, impl.DateOk(d), impl.DayOf(d), impl.DateText(d))
	}
}

func checkNoDateText(t *testing.T, s string) {
	t.Helper()
	if d, ok := impl.ReadDate(s); ok || d != (impl.Date{}) {
		t.Errorf("ReadDate(%q) = %d, %t", s, d, ok)
	}
}

func TestDatesThatAreKnown(t *testing.T) {
	rows := []struct {
		date impl.Date
		day  int64
		text string
	}{
		{impl.Date{Year: 1970, Month: 1, Day: 1}, 0, "1970-01-01"},
		{impl.Date{Year: 1970, Month: 1, Day: 2}, 1, "1970-01-02"},
		{impl.Date{Year: 1970, Month: 12, Day: 31}, 364, "1970-12-31"},
		{impl.Date{Year: 1971, Month: 1, Day: 1}, 365, "1971-01-01"},
		{impl.Date{Year: 1972, Month: 2, Day: 29}, 789, "1972-02-29"},
		{impl.Date{Year: 1972, Month: 3, Day: 1}, 790, "1972-03-01"},
		{impl.Date{Year: 1972, Month: 12, Day: 31}, 1095, "1972-12-31"},
		{impl.Date{Year: 1973, Month: 1, Day: 1}, 1096, "1973-01-01"},
		{impl.Date{Year: 2000, Month: 2, Day: 29}, 11016, "2000-02-29"},
		{impl.Date{Year: 2000, Month: 3, Day: 1}, 11017, "2000-03-01"},
		{impl.Date{Year: 2100, Month: 2, Day: 28}, 47540, "2100-02-28"},
		{impl.Date{Year: 2100, Month: 3, Day: 1}, 47541, "2100-03-01"},
		{impl.Date{Year: 2400, Month: 2, Day: 29}, 157113, "2400-02-29"},
		{impl.Date{Year: 2517, Month: 7, Day: 31}, 199999, "2517-07-31"},
		{impl.Date{Year: 2517, Month: 8, Day: 1}, 200000, "2517-08-01"},
	}
	for _, row := range rows {
		checkDate(t, row.date, row.day, row.text)
	}
}

func TestEachDayHasItsDate(t *testing.T) {
	last := ""
	for day := range int64(impl.MaxDay) + 1 {
		date, text := knownDate(day)
		checkDate(t, date, day, text)
		if text := impl.DateText(impl.DateOf(day)); text <= last {
			t.Fatalf("the text %q of day %d does not stand behind %q", text, day, last)
		} else {
			last = text
		}
	}
}

func TestTheCalendarHasTheseDatesAlone(t *testing.T) {
	for year := int64(1960); year <= 2530; year++ {
		for month := int64(-1); month <= 14; month++ {
			for day := int64(-1); day <= 33; day++ {
				checkAgainstCalendar(t, impl.Date{Year: year, Month: month, Day: day})
			}
		}
	}
}

// checkAgainstCalendar knows a date that there is by this: the standard library leaves it as it is.
func checkAgainstCalendar(t *testing.T, d impl.Date) {
	t.Helper()
	at := time.Date(int(d.Year), time.Month(d.Month), int(d.Day), 0, 0, 0, 0, time.UTC)
	day := at.Unix() / (24 * 60 * 60)
	there := int64(at.Year()) == d.Year && int64(at.Month()) == d.Month && int64(at.Day()) == d.Day
	if want := there && d.Year >= 1970 && day <= impl.MaxDay; impl.DateOk(d) != want {
		t.Errorf("DateOk(%d) = %t", d, !want)
	} else if want && impl.DayOf(d) != day {
		t.Errorf("DayOf(%d) = %d, want %d", d, impl.DayOf(d), day)
	} else if !want {
		checkNoDate(t, d)
	}
}

func TestThe29thOfFebruary(t *testing.T) {
	for _, year := range []int64{1972, 1976, 2000, 2004, 2024, 2096, 2104, 2400, 2516} {
		d := impl.Date{Year: year, Month: 2, Day: 29}
		if day := impl.DayOf(d); !impl.DateOk(d) || impl.DateOf(day) != d || impl.DateOf(day+1) != (impl.Date{Year: year, Month: 3, Day: 1}) {
			t.Errorf("%d has no 29th of February: %d, %d", year, day, impl.DateOf(day))
		}
		checkNoDate(t, impl.Date{Year: year, Month: 2, Day: 30})
	}
	for _, year := range []int64{1970, 1971, 1973, 2026, 2100, 2200, 2300, 2500, 2517} {
		checkNoDate(t, impl.Date{Year: year, Month: 2, Day: 29})
		d := impl.Date{Year: year, Month: 2, Day: 28}
		if day := impl.DayOf(d); !impl.DateOk(d) || impl.DateOf(day+1) != (impl.Date{Year: year, Month: 3, Day: 1}) {
			t.Errorf("behind the 28th of February of %d: %d", year, impl.DateOf(day+1))
		}
	}
	for _, s := range []string{"1971-02-29", "2100-02-29", "2200-02-29", "2300-02-29", "2500-02-29", "1972-02-30", "2000-02-30", "2400-02-30"} {
		checkNoDateText(t, s)
	}
}

func TestTheLastDayOfEachMonth(t *testing.T) {
	lasts := []int64{31, 28, 31, 30, 31, 30, 31, 31, 30, 31, 30, 31}
	for i, last := range lasts {
		month := int64(i) + 1
		d := impl.Date{Year: 2026, Month: month, Day: last}
		next := impl.Date{Year: 2026, Month: month + 1, Day: 1}
		if month == 12 {
			next = impl.Date{Year: 2027, Month: 1, Day: 1}
		}
		if day := impl.DayOf(d); !impl.DateOk(d) || impl.DateOf(day) != d || impl.DateOf(day+1) != next || impl.DayOf(next) != day+1 {
			t.Errorf("month %d does not end with %d: day %d, then %d", month, last, day, impl.DateOf(day+1))
		}
		for _, day := range []int64{0, -1, last + 1, 32, 99} {
			checkNoDate(t, impl.Date{Year: 2026, Month: month, Day: day})
		}
	}
}

func TestDatesThatAreNotRight(t *testing.T) {
	for _, d := range []impl.Date{
		{},
		{Year: 1969, Month: 12, Day: 31}, {Year: 0, Month: 1, Day: 1}, {Year: -1, Month: 1, Day: 1}, {Year: 1968, Month: 2, Day: 29},
		{Year: 2026, Month: 0, Day: 1}, {Year: 2026, Month: 13, Day: 1}, {Year: 2026, Month: -1, Day: 1},
		{Year: 2026, Month: 1, Day: 0}, {Year: 2026, Month: 1, Day: 32}, {Year: 2026, Month: 4, Day: 31}, {Year: 2026, Month: 2, Day: 30},
		{Year: 2517, Month: 8, Day: 2}, {Year: 2517, Month: 8, Day: 3}, {Year: 2517, Month: 8, Day: 31}, {Year: 2517, Month: 9, Day: 1}, {Year: 2518, Month: 1, Day: 1},
		{Year: 9999, Month: 12, Day: 31}, {Year: 10000, Month: 1, Day: 1}, {Year: 1970 + 1<<32, Month: 1, Day: 1},
		{Year: math.MaxInt64, Month: 1, Day: 1}, {Year: math.MinInt64, Month: 1, Day: 1}, {Year: math.MaxInt64 / 365, Month: 1, Day: 1},
		{Year: 2026, Month: math.MaxInt64, Day: 1}, {Year: 2026, Month: math.MinInt64, Day: 1}, {Year: 2026, Month: 1 + 1<<32, Day: 1},
		{Year: 2026, Month: 1, Day: math.MaxInt64}, {Year: 2026, Month: 1, Day: math.MinInt64}, {Year: 2026, Month: 1, Day: 1 + 1<<32},
		{Year: math.MaxInt64, Month: math.MaxInt64, Day: math.MaxInt64}, {Year: math.MinInt64, Month: math.MinInt64, Day: math.MinInt64},
	} {
		checkNoDate(t, d)
	}
	for _, day := range []int64{-1, -2, -365, 200001, 200002, 1 << 32, math.MinInt64, math.MaxInt64} {
		if d := impl.DateOf(day); d != (impl.Date{}) {
			t.Errorf("DateOf(%d) = %d, want none", day, d)
		}
	}
}

func TestTextsThatAreNoDates(t *testing.T) {
	for _, s := range []string{
		"", "-", "--", "----------", "0000-00-00", "0000-01-01", "1969-12-31", "1970-00-01", "1970-13-01", "1970-01-00", "1970-01-32",
		"2026-04-31", "2026-06-31", "2026-09-31", "2026-11-31", "2517-08-02", "2517-08-03", "2518-01-01", "9999-01-01", "9999-99-99",
		"2026-1-01", "2026-01-1", "2026-1-1", "026-01-01", "26-01-01", "2026-001-1", "2026-1-001", "02026-01-01", "2026-011-01", "2026-01-011",
		"2026/01/01", "2026-01/01", "2026/01-01", "2026.01.01", "20260-1-01", "2026-010-1", "20260101", "2026-0101", "202601-01",
		"2026-01-01 ", " 2026-01-01", "2026-01-01\n", "2026-01-01\x00", "2026-01-01T", "2026-01-0", "2026-01-", "2026-01",
		"+026-01-01", "-026-01-01", "2026-+1-01", "2026--1-01", "2026-01-+1", "2026-01--1", "2026- 1-01", "2026-01- 1", " 026-01-01",
		"2026-0a-01", "20x6-01-01", "2026-01-0\x00", "2026-01-0:", "2026-01-0/", "2026\xe2\x80\x9301-01", "\xd9\xa2026-01-01", strings.Repeat("2026-01-01", 400),
	} {
		checkNoDateText(t, s)
	}
}

// A text is read when it is that of a date, and in no other spelling.
func TestDatesHaveOneText(t *testing.T) {
	for _, s := range []string{"1970-01-01", "1999-12-31", "2000-02-29", "2026-11-18", "2517-08-01"} {
		for i := range len(s) {
			for c := range 256 {
				b := []byte(s)
				b[i] = byte(c)
				if d, ok := impl.ReadDate(string(b)); ok && impl.DateText(d) != string(b) {
					t.Errorf("%q is read as %d, which is %q", b, d, impl.DateText(d))
				} else if !ok && d != (impl.Date{}) {
					t.Errorf("%q is refused, with %d", b, d)
				} else if _, err := time.Parse("2006-01-02", string(b)); ok && err != nil {
					t.Errorf("%q is read: %v", b, err)
				}
			}
			checkNoDateText(t, s[:i]+s[i+1:])
			checkNoDateText(t, s[:i]+"0"+s[i:])
		}
	}
}

func TestTextsAreInTheOrderOfTheirDays(t *testing.T) {
	r := fixedRandom()
	var days []int64
	for range 2000 {
		days = append(days, r.Int63n(impl.MaxDay+1))
	}
	slices.Sort(days)
	texts := make([]string, 0, len(days))
	for _, day := range days {
		texts = append(texts, impl.DateText(impl.DateOf(day)))
	}
	if texts[0] == "" || !slices.IsSorted(texts) {
		t.Error("the texts are not in the order of their days")
	}
}
