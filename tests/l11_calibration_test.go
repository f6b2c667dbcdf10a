package tests

import (
	"maps"
	"math"
	"math/big"
	"math/rand"
	"slices"
	"testing"

	"loop.example/g00876/impl"
)

func point(year, age, err int) impl.CurvePoint {
	return impl.CurvePoint{Year: year, Age: age, Error: err}
}

// curveOf has one point for every {Year, Age, Error}.
func curveOf(points ...[3]int) []impl.CurvePoint {
	curve := []impl.CurvePoint{}
	for _, p := range points {
		curve = append(curve, point(p[0], p[1], p[2]))
	}
	return curve
}

// level has the same Age and Error in all years, and a point every 50 years.
func level(from, to, age, err int) []impl.CurvePoint {
	curve := []impl.CurvePoint{}
	for year := from; year < to; year += 50 {
		curve = append(curve, point(year, age, err))
	}
	return append(curve, point(to, age, err))
}

// yearly has a point without an Error in every year from one on.
func yearly(from int, ages ...int) []impl.CurvePoint {
	curve := []impl.CurvePoint{}
	for i, age := range ages {
		curve = append(curve, point(from+i, age, 0))
	}
	return curve
}

// evenly has count points that are step years apart, with different Ages.
func evenly(from, step, count int) []impl.CurvePoint {
	curve := []impl.CurvePoint{}
	for i := range count {
		curve = append(curve, point(from+i*step, 5000-10*i, 10+i%7))
	}
	return curve
}

func measured(age, err int) impl.Measurement {
	return impl.Measurement{Age: age, Error: err}
}

// allMeasured has one Measurement for every {Age, Error}.
func allMeasured(pairs ...[2]int) []impl.Measurement {
	list := []impl.Measurement{}
	for _, p := range pairs {
		list = append(list, measured(p[0], p[1]))
	}
	return list
}

func alike(count int, m impl.Measurement) []impl.Measurement {
	return slices.Repeat([]impl.Measurement{m}, count)
}

// bend falls by 10 in 4 years and rises by 4 in 2.
func bend() []impl.CurvePoint {
	return curveOf([3]int{0, 100, 10}, [3]int{4, 90, 20}, [3]int{6, 94, 20})
}

func checkCurveAt(t *testing.T, curve []impl.CurvePoint, year, age, err int, wantOk bool) {
	t.Helper()
	if gotAge, gotErr, ok := impl.CurveAt(curve, year); gotAge != age || gotErr != err || ok != wantOk {
		t.Errorf("CurveAt(%v, %d) = %d, %d, %v; want %d, %d, %v", curve, year, gotAge, gotErr, ok, age, err, wantOk)
	}
}

func checkWithin(t *testing.T, curve []impl.CurvePoint, low, high int, want []int, wantOk bool) {
	t.Helper()
	if got, ok := impl.YearsWithin(curve, low, high); !slices.Equal(got, want) || ok != wantOk {
		t.Errorf("YearsWithin(%v, %d, %d) = %v, %v; want %v, %v", curve, low, high, got, ok, want, wantOk)
	}
}

func checkCalibrated(t *testing.T, curve []impl.CurvePoint, m impl.Measurement, want impl.Distribution) {
	t.Helper()
	got, ok := impl.CalibrateAge(curve, m)
	checkDistribution(t, got, ok, want, "CalibrateAge", curve, m)
}

// checkMean wants that CombineMeasurements fails if want is the zero value.
func checkMean(t *testing.T, list []impl.Measurement, want impl.Measurement) {
	t.Helper()
	wantOk := want != impl.Measurement{}
	if got, ok := impl.CombineMeasurements(list); got != want || ok != wantOk {
		t.Errorf("CombineMeasurements(%v) = %v, %v; want %v, %v", list, got, ok, want, wantOk)
	}
}

func checkAgreement(t *testing.T, list []impl.Measurement, low, high int, wantOk bool) {
	t.Helper()
	if gotLow, gotHigh, ok := impl.AgreementOf(list); gotLow != low || gotHigh != high || ok != wantOk {
		t.Errorf("AgreementOf(%v) = %d, %d, %v; want %d, %d, %v", list, gotLow, gotHigh, ok, low, high, wantOk)
	}
}

func checkTurns(t *testing.T, curve []impl.CurvePoint, want []int, wantOk bool) {
	t.Helper()
	if got, ok := impl.CurveTurns(curve); !slices.Equal(got, want) || ok != wantOk {
		t.Errorf("CurveTurns(%v) = %v, %v; want %v, %v", curve, got, ok, want, wantOk)
	}
}

// checkShiftedCurve wants that ShiftCurve fails if want is empty.
func checkShiftedCurve(t *testing.T, curve []impl.CurvePoint, age, err int, want []impl.CurvePoint) {
	t.Helper()
	if got, ok := impl.ShiftCurve(curve, age, err); !slices.Equal(got, want) || ok != (len(want) > 0) {
		t.Errorf("ShiftCurve(%v, %d, %d) = %v, %v; want %v", curve, age, err, got, ok, want)
	}
}

func checkPlaced(t *testing.T, curve []impl.CurvePoint, list []impl.Measurement, gaps []int, want impl.Distribution) {
	t.Helper()
	got, ok := impl.WigglePlacement(curve, list, gaps)
	checkDistribution(t, got, ok, want, "WigglePlacement", curve, list, gaps)
}

// soundCurves are at every limit.
func soundCurves() map[string][]impl.CurvePoint {
	return map[string][]impl.CurvePoint{
		"bend":                   bend(),
		"two points":             yearly(7, 50, 48),
		"rising and falling":     yearly(-1, 50, 70, 60),
		"without a slope":        yearly(-1, 50, 50, 50),
		"40 points":              evenly(0, 10, 40),
		"40 points in 40 years":  evenly(-20, 1, 40),
		"50 years apart":         evenly(-25, 50, 2),
		"50 years apart each":    evenly(-100, 50, 8),
		"400 years":              level(-100, 299, 700, 5),
		"400 years at MinYear":   level(impl.MinYear, impl.MinYear+399, 60000, 0),
		"400 years at MaxYear":   level(impl.MaxYear-399, impl.MaxYear, 0, 1000),
		"from MinYear":           evenly(impl.MinYear, 1, 2),
		"to MaxYear":             evenly(impl.MaxYear-1, 1, 2),
		"40 points from MinYear": evenly(impl.MinYear, 10, 40),
		"40 points to MaxYear":   evenly(impl.MaxYear-390, 10, 40),
		"Ages of 0":              curveOf([3]int{0, 0, 5}, [3]int{3, 0, 5}),
		"Ages of MaxAge":         curveOf([3]int{0, impl.MaxAge, 5}, [3]int{3, impl.MaxAge, 5}),
		"from 0 to MaxAge":       curveOf([3]int{0, 0, 0}, [3]int{50, impl.MaxAge, impl.MaxError}),
		"from MaxAge to 0":       curveOf([3]int{0, impl.MaxAge, impl.MaxError}, [3]int{49, 0, 0}),
		"Errors of 0":            curveOf([3]int{0, 9, 0}, [3]int{3, 5, 0}),
		"Errors of MaxError":     curveOf([3]int{0, 9, impl.MaxError}, [3]int{3, 5, impl.MaxError}),
		"across the year 0":      curveOf([3]int{-3, 9, 1}, [3]int{0, 5, 2}, [3]int{2, 5, 2}),
		"one year and 50 years":  curveOf([3]int{0, 9, 1}, [3]int{1, 5, 2}, [3]int{51, 4, 2}),
		"400 years of 9 points":  append(level(0, 350, 80, 1), point(399, 81, 1)),
	}
}

// flawedPoints are no points of a curve, with the Year 3 unless that is the flaw.
func flawedPoints() map[string]impl.CurvePoint {
	return map[string]impl.CurvePoint{
		"Age below 0":        point(3, -1, 5),
		"Age above MaxAge":   point(3, impl.MaxAge+1, 5),
		"least Age":          point(3, math.MinInt, 5),
		"greatest Age":       point(3, math.MaxInt, 5),
		"Error below 0":      point(3, 50, -1),
		"Error too great":    point(3, 50, impl.MaxError+1),
		"least Error":        point(3, 50, math.MinInt),
		"greatest Error":     point(3, 50, math.MaxInt),
		"all too great":      point(3, impl.MaxAge+1, impl.MaxError+1),
		"Year before all":    point(impl.MinYear-1, 50, 5),
		"Year after all":     point(impl.MaxYear+1, 50, 5),
		"least Year":         point(math.MinInt, 50, 5),
		"greatest Year":      point(math.MaxInt, 50, 5),
		"Year of the next":   point(6, 50, 5),
		"Year after next":    point(7, 50, 5),
		"Year of the last":   point(0, 50, 5),
		"Year before last":   point(-1, 50, 5),
		"far before":         point(-50, 50, 5),
		"far after":          point(100, 50, 5),
		"just beyond 50":     point(51, 50, 5),
		"50 before the next": point(-44, 50, 5),
	}
}

// flawedCurves have one flaw each.
func flawedCurves() map[string][]impl.CurvePoint {
	flawed := map[string][]impl.CurvePoint{
		"nil":                      nil,
		"no points":                {},
		"one point":                yearly(3, 50),
		"41 points":                evenly(0, 9, 41),
		"41 points in 41 years":    evenly(0, 1, 41),
		"far too many points":      evenly(-19000, 1, 20000),
		"equal Years":              curveOf([3]int{3, 50, 1}, [3]int{3, 51, 1}),
		"descending Years":         curveOf([3]int{4, 50, 1}, [3]int{3, 51, 1}),
		"equal Years at the start": curveOf([3]int{3, 50, 1}, [3]int{3, 51, 1}, [3]int{4, 51, 1}),
		"equal Years at the end":   curveOf([3]int{3, 50, 1}, [3]int{4, 51, 1}, [3]int{4, 51, 1}),
		"all Years descending":     backward(evenly(0, 10, 20)),
		"a point twice":            append(bend(), point(6, 94, 20)),
		"descending at the end":    append(bend(), point(5, 94, 20)),
		"51 years apart":           evenly(0, 51, 2),
		"51 years at the end":      append(evenly(0, 10, 5), point(91, 50, 1)),
		"51 years at the start":    slices.Insert(evenly(0, 10, 5), 0, point(-51, 50, 1)),
		"51 years between":         append(evenly(0, 10, 5), evenly(91, 10, 5)...),
		"far apart":                evenly(-10000, 10000, 2),
		"401 years":                level(0, 400, 80, 1),
		"401 years of 40 points":   append(evenly(0, 10, 39), point(400, 50, 1)),
		"401 years before 0":       level(-400, 0, 80, 1),
		"402 years":                level(-1, 400, 80, 1),
		"401 years to MaxYear":     level(impl.MaxYear-400, impl.MaxYear, 80, 1),
		"from before MinYear":      evenly(impl.MinYear-1, 1, 3),
		"to after MaxYear":         evenly(impl.MaxYear-1, 1, 3),
		"all before MinYear":       evenly(impl.MinYear-9, 1, 3),
		"all after MaxYear":        evenly(impl.MaxYear+1, 1, 3),
		"from the least int on":    curveOf([3]int{math.MinInt, 50, 1}, [3]int{math.MinInt + 1, 50, 1}),
		"to the greatest int":      curveOf([3]int{math.MaxInt - 1, 50, 1}, [3]int{math.MaxInt, 50, 1}),
		"around the greatest int":  curveOf([3]int{math.MaxInt, 50, 1}, [3]int{math.MinInt, 50, 1}),
		"all ints":                 curveOf([3]int{math.MinInt, 50, 1}, [3]int{math.MaxInt, 50, 1}),
	}
	for name, p := range flawedPoints() {
		flawed[name+" between"] = []impl.CurvePoint{point(0, 50, 5), p, point(6, 40, 5)}
		if p.Year == 3 {
			flawed[name+" at the start"] = []impl.CurvePoint{p, point(6, 40, 5)}
			flawed[name+" at the end"] = []impl.CurvePoint{point(0, 40, 5), p}
		}
	}
	return flawed
}

func flawedMeasurements() map[string]impl.Measurement {
	return map[string]impl.Measurement{
		"zero value":         {},
		"Error of 0":         measured(50, 0),
		"Error below 0":      measured(50, -1),
		"Error too great":    measured(50, impl.MaxError+1),
		"least Error":        measured(50, math.MinInt),
		"greatest Error":     measured(50, math.MaxInt),
		"Age below 0":        measured(-1, 5),
		"Age above MaxAge":   measured(impl.MaxAge+1, 5),
		"least Age":          measured(math.MinInt, 5),
		"greatest Age":       measured(math.MaxInt, 5),
		"both too great":     measured(impl.MaxAge+1, impl.MaxError+1),
		"both below 0":       measured(-1, -1),
		"both as great":      measured(math.MaxInt, math.MaxInt),
		"both as small":      measured(math.MinInt, math.MinInt),
		"Age of 0, no Error": measured(0, 0),
	}
}

func soundMeasurements() []impl.Measurement {
	return allMeasured([2]int{0, 1}, [2]int{impl.MaxAge, 1}, [2]int{0, impl.MaxError}, [2]int{impl.MaxAge, impl.MaxError}, [2]int{50, 1}, [2]int{95, 7})
}

func TestValidCurves(t *testing.T) {
	for name, curve := range soundCurves() {
		if !impl.IsValidCurve(curve) {
			t.Errorf("%s: %v is not valid", name, curve)
		}
	}
	for name, curve := range flawedCurves() {
		if impl.IsValidCurve(curve) {
			t.Errorf("%s: %v is valid", name, curve)
		}
	}
}

func TestFlawedCurvesAreRefused(t *testing.T) {
	m, none := measured(50, 5), impl.Distribution{}
	for _, curve := range flawedCurves() {
		before := slices.Clone(curve)
		years := []int{0, 3, 4, 6, impl.MinYear, impl.MaxYear, math.MinInt, math.MaxInt}
		if len(curve) > 0 {
			years = append(years, curve[0].Year, curve[len(curve)-1].Year)
		}
		for _, year := range years {
			checkCurveAt(t, curve, year, 0, 0, false)
		}
		checkWithin(t, curve, 0, impl.MaxAge, nil, false)
		checkWithin(t, curve, math.MinInt, math.MaxInt, nil, false)
		checkWithin(t, curve, 1, 0, nil, false)
		checkCalibrated(t, curve, m, none)
		checkTurns(t, curve, nil, false)
		for _, shift := range [][2]int{{0, 0}, {1, 0}, {-1, 0}, {0, 1}, {0, -1}, {1, 1}, {-1, -1}, {math.MaxInt, 0}, {math.MinInt, 0}, {0, math.MaxInt}, {0, math.MinInt}} {
			checkShiftedCurve(t, curve, shift[0], shift[1], nil)
		}
		checkPlaced(t, curve, alike(1, m), nil, none)
		checkPlaced(t, curve, alike(2, m), []int{1}, none)
		if !slices.Equal(curve, before) {
			t.Errorf("%v became %v", before, curve)
		}
	}
}

func TestFlawedMeasurementsAreRefused(t *testing.T) {
	none := impl.Distribution{}
	for _, m := range flawedMeasurements() {
		for _, curve := range soundCurves() {
			checkCalibrated(t, curve, m, none)
			checkPlaced(t, curve, alike(1, m), nil, none)
		}
		for count := 1; count <= 10; count++ {
			for i := range count {
				list := alike(count, measured(50, 5))
				list[i] = m
				checkMean(t, list, impl.Measurement{})
				checkAgreement(t, list, 0, 0, false)
				checkPlaced(t, level(0, 59, 50, 1), list, make([]int, count-1), none)
			}
		}
	}
}

// TestMeasurementsAtTheLimits: each is the mean of itself, and calibrated on a curve of its Age.
func TestMeasurementsAtTheLimits(t *testing.T) {
	for _, m := range soundMeasurements() {
		checkMean(t, alike(1, m), m)
		checkAgreement(t, alike(1, m), max(0, m.Age-2*m.Error), min(impl.MaxAge, m.Age+2*m.Error), true)
		checkCalibrated(t, level(0, 59, m.Age, 0), m, even(0, 60))
		checkPlaced(t, level(0, 59, m.Age, 0), alike(1, m), nil, even(0, 60))
	}
}

func TestCurveAt(t *testing.T) {
	for year, want := range map[int][2]int{0: {100, 10}, 1: {97, 13}, 2: {95, 15}, 3: {92, 18}, 4: {90, 20}, 5: {92, 20}, 6: {94, 20}} {
		checkCurveAt(t, bend(), year, want[0], want[1], true)
	}
	across := curveOf([3]int{-3, 9, 1}, [3]int{0, 5, 2}, [3]int{2, 5, 0})
	for year, want := range map[int][2]int{-3: {9, 1}, -2: {8, 1}, -1: {6, 2}, 0: {5, 2}, 1: {5, 1}, 2: {5, 0}} {
		checkCurveAt(t, across, year, want[0], want[1], true)
	}
	steep := curveOf([3]int{0, 0, 0}, [3]int{50, impl.MaxAge, impl.MaxError})
	for year, want := range map[int][2]int{0: {0, 0}, 1: {1200, 20}, 25: {30000, 500}, 49: {58800, 980}, 50: {impl.MaxAge, impl.MaxError}} {
		checkCurveAt(t, steep, year, want[0], want[1], true)
	}
	steepest := curveOf([3]int{-49, impl.MaxAge, impl.MaxError}, [3]int{0, 0, 0})
	for year, want := range map[int][2]int{-49: {impl.MaxAge, impl.MaxError}, -48: {58776, 980}, -47: {57551, 959}, -1: {1224, 20}, 0: {0, 0}} {
		checkCurveAt(t, steepest, year, want[0], want[1], true)
	}
}

// TestCurveAtRounds: quotients between two points, with halves away from zero.
func TestCurveAtRounds(t *testing.T) {
	for _, c := range []struct {
		from, to int
		between  []int
	}{
		{0, 1, []int{1}}, {1, 0, []int{0}}, {7, 8, []int{8}}, {8, 7, []int{7}}, {5, 8, []int{7}}, {8, 5, []int{6}},
		{0, 1, []int{0, 1}}, {1, 0, []int{1, 0}}, {10, 9, []int{10, 9}}, {0, 2, []int{1, 1}}, {2, 0, []int{1, 1}}, {10, 15, []int{12, 13}}, {15, 10, []int{13, 12}},
		{0, 10, []int{3, 5, 8}}, {10, 0, []int{7, 5, 2}}, {0, 1, []int{0, 1, 1}}, {1, 0, []int{1, 0, 0}}, {100, 98, []int{99, 99, 98}}, {98, 100, []int{99, 99, 100}},
		{0, 6, []int{2, 3, 5}}, {6, 0, []int{4, 3, 1}}, {100, 90, []int{97, 95, 92}}, {10, 20, []int{13, 15, 18}}, {5, 5, []int{5, 5, 5}},
		{0, 3, []int{1, 1, 2, 2}}, {3, 0, []int{2, 2, 1, 1}}, {0, 3, []int{1, 1, 2, 2, 3}}, {3, 0, []int{2, 2, 1, 1, 0}},
		{0, 9, []int{2, 3, 5, 6, 8}}, {9, 0, []int{7, 6, 4, 3, 1}}, {1000, 994, []int{999, 998, 997, 996, 995}},
	} {
		last := len(c.between) + 1
		for _, first := range []int{0, -2, 1900, impl.MinYear} {
			ages := curveOf([3]int{first, c.from, 6}, [3]int{first + last, c.to, 6})
			errors := curveOf([3]int{first, 50, c.from}, [3]int{first + last, 50, c.to})
			both := curveOf([3]int{first, c.from, c.to}, [3]int{first + last, c.to, c.from}, [3]int{first + last + 1, 77, 7})
			for i, want := range c.between {
				checkCurveAt(t, ages, first+1+i, want, 6, true)
				checkCurveAt(t, errors, first+1+i, 50, want, true)
				_, reversed, _ := impl.CurveAt(curveOf([3]int{first, 50, c.to}, [3]int{first + last, 50, c.from}), first+1+i)
				checkCurveAt(t, both, first+1+i, want, reversed, true)
			}
		}
	}
}

// TestCurveAtHasYearsOfTheCurveOnly: there is nothing before the first point and after the last one.
func TestCurveAtHasYearsOfTheCurveOnly(t *testing.T) {
	for _, curve := range soundCurves() {
		for _, p := range curve {
			checkCurveAt(t, curve, p.Year, p.Age, p.Error, true)
		}
		first, last := curve[0].Year, curve[len(curve)-1].Year
		for _, year := range []int{
			first - 1, last + 1, first - 50, last + 50, first - 1000, last + 1000, math.MinInt, math.MinInt + 1, math.MaxInt, math.MaxInt - 1,
			math.MinInt + 20001, math.MaxInt - 20001, math.MinInt / 2, math.MaxInt / 2,
		} {
			checkCurveAt(t, curve, year, 0, 0, false)
		}
	}
}

func TestYearsWithin(t *testing.T) {
	for _, c := range []struct {
		low, high int
		want      []int
	}{
		{90, 95, []int{2, 3, 4, 5, 6}}, {90, 90, []int{4}}, {91, 94, []int{3, 5, 6}}, {92, 92, []int{3, 5}}, {95, 100, []int{0, 1, 2}}, {100, 100, []int{0}},
		{0, impl.MaxAge, []int{0, 1, 2, 3, 4, 5, 6}}, {90, 100, []int{0, 1, 2, 3, 4, 5, 6}}, {91, 99, []int{1, 2, 3, 5, 6}},
		{math.MinInt, math.MaxInt, []int{0, 1, 2, 3, 4, 5, 6}}, {math.MinInt, 92, []int{3, 4, 5}}, {94, math.MaxInt, []int{0, 1, 2, 6}}, {-5, 90, []int{4}},
		// Ages that no year has.
		{0, 89, nil}, {101, impl.MaxAge, nil}, {91, 91, nil}, {93, 93, nil}, {98, 99, nil}, {96, 96, nil}, {-9, -1, nil}, {impl.MaxAge + 1, math.MaxInt, nil}, {math.MinInt, -1, nil},
		{math.MinInt, math.MinInt, nil}, {math.MaxInt, math.MaxInt, nil},
		// Intervals without an Age.
		{95, 90, nil}, {91, 90, nil}, {100, 0, nil}, {impl.MaxAge, 0, nil}, {math.MaxInt, math.MinInt, nil}, {90, math.MinInt, nil}, {math.MaxInt, 100, nil},
	} {
		checkWithin(t, bend(), c.low, c.high, c.want, true)
	}
	all := []int{}
	for year := -100; year < 300; year++ {
		all = append(all, year)
	}
	checkWithin(t, level(-100, 299, 700, 5), 700, 700, all, true)
	checkWithin(t, level(-100, 299, 700, 5), 0, 699, nil, true)
	checkWithin(t, level(-100, 299, 700, 5), 701, 999, nil, true)
	checkWithin(t, yearly(-2, 0, 0, 3, 0), 0, 0, []int{-2, -1, 1}, true)
	checkWithin(t, yearly(impl.MinYear, 7, impl.MaxAge, 8), impl.MaxAge, impl.MaxAge, []int{impl.MinYear + 1}, true)
	checkWithin(t, yearly(impl.MaxYear-2, 7, impl.MaxAge, 7), 0, impl.MaxAge-1, []int{impl.MaxYear - 2, impl.MaxYear}, true)
}

func TestCalibrateAge(t *testing.T) {
	fall := curveOf([3]int{0, 100, 0}, [3]int{10, 0, 0})
	sevens := curveOf([3]int{0, 70, 0}, [3]int{10, 0, 0})
	none := impl.Distribution{}
	for _, c := range []struct {
		curve []impl.CurvePoint
		m     impl.Measurement
		want  impl.Distribution
	}{
		{yearly(10, 50, 49, 48), measured(50, 1), weighted(10, 3, 2, 1)},
		{curveOf([3]int{10, 50, 0}, [3]int{12, 48, 0}), measured(50, 1), weighted(10, 3, 2, 1)},
		{yearly(10, 50, 48), measured(50, 1), weighted(10, 3, 1)},
		{yearly(10, 48, 49, 50), measured(50, 1), weighted(10, 1, 2, 3)},
		{bend(), measured(95, 7), weighted(0, 30, 39, 45, 48, 50, 52, 54)},
		// Distances of both signs, with the weights 1, 0 and below 0 at the ends.
		{fall, measured(50, 10), weighted(3, 1, 11, 21, 11, 1)},
		{fall, measured(50, 9), weighted(4, 9, 19, 9)},
		{fall, measured(51, 10), weighted(3, 1, 6, 10, 5)},
		{fall, measured(49, 10), weighted(4, 5, 10, 6, 1)},
		{fall, measured(0, 10), weighted(8, 1, 11, 21)},
		{fall, measured(100, 10), weighted(0, 21, 11, 1)},
		{fall, measured(120, 10), weighted(0, 1)},
		{fall, measured(121, 10), none},
		{fall, measured(122, 10), none},
		{fall, measured(impl.MaxAge, 10), none},
		{fall, measured(impl.MaxAge, impl.MaxError), none},
		{fall, measured(2100, impl.MaxError), weighted(0, 1)},
		{fall, measured(2101, impl.MaxError), none},
		// All weights have a common divisor, with zeros and numbers below 0 beside them.
		{sevens, measured(35, 10), weighted(3, 1, 2, 3, 2, 1)},
		{sevens, measured(35, 3), weighted(5, 1)},
		{sevens, measured(70, 10), weighted(0, 3, 2, 1)},
		{sevens, measured(0, 10), weighted(8, 1, 2, 3)},
		{sevens, measured(90, 10), weighted(0, 1)},
		{sevens, measured(91, 10), none},
		{yearly(5, 50, 50, 50), measured(50, 3), even(5, 3)},
		{yearly(5, 50, 50, 50), measured(56, 3), even(5, 3)},
		{yearly(5, 50, 50, 50), measured(57, 3), none},
		{yearly(5, 50, 50, 50), measured(58, 3), none},
		// Zeros between others.
		{yearly(5, 50, 80, 50), measured(50, 2), weighted(5, 1, 0, 1)},
		{yearly(5, 50, 80, 54, 49, 90), measured(50, 2), weighted(5, 5, 0, 1, 4)},
		{yearly(5, 90, 51, 90, 90, 52, 0, 0), measured(50, 3), weighted(6, 6, 0, 0, 5)},
		// Errors of the curve.
		{curveOf([3]int{0, 50, 0}, [3]int{1, 50, 1}, [3]int{2, 50, 2}), measured(50, 1), weighted(0, 3, 5, 7)},
		{curveOf([3]int{0, 50, 0}, [3]int{1, 50, 1}, [3]int{2, 50, 2}), measured(53, 1), weighted(1, 1, 2)},
		{curveOf([3]int{0, 50, 2}, [3]int{1, 50, 1}, [3]int{2, 50, 0}), measured(47, 1), weighted(0, 2, 1)},
		{curveOf([3]int{0, 0, impl.MaxError}, [3]int{1, 1, impl.MaxError}), measured(0, impl.MaxError), weighted(0, 4001, 4000)},
		{curveOf([3]int{0, 0, 0}, [3]int{1, 0, impl.MaxError}), measured(0, 1), weighted(0, 3, 2003)},
		{curveOf([3]int{0, 4000, impl.MaxError}, [3]int{1, 4001, impl.MaxError}), measured(0, impl.MaxError), weighted(0, 1)},
		{curveOf([3]int{0, 4001, impl.MaxError}, [3]int{1, 4002, impl.MaxError}), measured(0, impl.MaxError), none},
		{yearly(impl.MinYear, 50, 49), measured(50, 1), weighted(impl.MinYear, 3, 2)},
		{yearly(impl.MaxYear-1, 50, 49), measured(49, 1), weighted(impl.MaxYear-1, 2, 3)},
	} {
		checkCalibrated(t, c.curve, c.m, c.want)
		// The placement of a single sample is that of its Age.
		checkPlaced(t, c.curve, alike(1, c.m), nil, c.want)
	}
}

// TestCalibrateManyYears: no more than MaxSupport weights are left after reducing, or the result is not valid.
func TestCalibrateManyYears(t *testing.T) {
	m, none := measured(700, 5), impl.Distribution{}
	for first := range map[int]bool{0: true, -30: true, impl.MinYear: true, impl.MaxYear - 60: true} {
		checkCalibrated(t, level(first, first+58, 700, 5), m, even(first, 59))
		checkCalibrated(t, level(first, first+59, 700, 5), m, even(first, 60))
		checkCalibrated(t, level(first, first+60, 700, 5), m, none)
	}
	checkCalibrated(t, level(-100, 299, 700, 5), m, none)
	// One of 61 years has the weight 0 or 1, at an end or between others.
	low, high := 700-21, 700+21
	checkCalibrated(t, append(level(0, 59, 700, 5), point(60, low, 5)), m, even(0, 60))
	checkCalibrated(t, append(level(0, 59, 700, 5), point(60, high, 5)), m, even(0, 60))
	checkCalibrated(t, append(level(0, 59, 700, 5), point(60, low+1, 5)), m, none)
	checkCalibrated(t, append(level(0, 58, 700, 5), point(59, high-1, 5)), m, weighted(0, append(slices.Repeat([]int{21}, 59), 1)...))
	checkCalibrated(t, slices.Insert(level(1, 60, 700, 5), 0, point(0, high, 5)), m, even(1, 60))
	checkCalibrated(t, slices.Insert(level(1, 60, 700, 5), 0, point(0, high-1, 5)), m, none)
	checkCalibrated(t, slices.Concat(level(0, 28, 700, 5), yearly(29, low-9), level(30, 60, 700, 5)), m, none)
	apart := even(0, 60)
	apart.Weights[29] = 0
	checkCalibrated(t, slices.Concat(level(0, 28, 700, 5), yearly(29, low-9), level(30, 59, 700, 5)), m, apart)
	// 400 years, of which most have no weight.
	checkCalibrated(t, curveOf([3]int{0, 700, 0}, [3]int{50, 700, 0}, [3]int{51, 0, 0}, [3]int{100, 0, 0}, [3]int{150, 0, 0},
		[3]int{200, 0, 0}, [3]int{250, 0, 0}, [3]int{300, 0, 0}, [3]int{350, 0, 0}, [3]int{399, 0, 0}), m, even(0, 51))
	checkCalibrated(t, append(level(0, 398, 0, 0), point(399, 700, 0)), m, weighted(399, 1))
	checkCalibrated(t, append(level(0, 398, 0, 0), point(399, 720, 5)), m, weighted(399, 1))
	checkCalibrated(t, append(level(0, 398, 0, 0), point(399, 721, 5)), m, none)
	checkCalibrated(t, level(0, 399, 0, 0), m, none)
}

func TestCombineMeasurements(t *testing.T) {
	for _, c := range []struct {
		list []impl.Measurement
		want impl.Measurement
	}{
		{allMeasured([2]int{100, 10}, [2]int{110, 10}), measured(105, 8)},
		{alike(1, measured(100, 10)), measured(100, 10)},
		// Means are rounded down.
		{allMeasured([2]int{100, 10}, [2]int{101, 10}), measured(100, 8)},
		{allMeasured([2]int{99, 1000}, [2]int{100, 1000}, [2]int{100, 1000}), measured(99, 578)},
		{allMeasured([2]int{0, 1000}, [2]int{1, 1000}), measured(0, 708)},
		{allMeasured([2]int{impl.MaxAge, 1}, [2]int{impl.MaxAge - 1, 1000}), measured(impl.MaxAge-1, 1)},
		{allMeasured([2]int{impl.MaxAge, 1000}, [2]int{0, 1}), measured(0, 1)},
		{allMeasured([2]int{0, 10}, [2]int{impl.MaxAge, 10}), measured(30000, 8)},
		{allMeasured([2]int{100, 10}, [2]int{200, 5}), measured(180, 5)},
		{allMeasured([2]int{200, 5}, [2]int{100, 10}), measured(180, 5)},
		{allMeasured([2]int{100, 10}, [2]int{200, 20}, [2]int{400, 40}), measured(133, 9)},
		// Weights are rounded up: 2 for the Errors 999 and 708, 3 for 600, 20409 for 7.
		{alike(1, measured(50, 999)), measured(50, 708)},
		{alike(1, measured(50, 708)), measured(50, 708)},
		{alike(1, measured(50, 707)), measured(50, 578)},
		{alike(1, measured(50, 600)), measured(50, 578)},
		{alike(1, measured(50, 501)), measured(50, 500)},
		{alike(1, measured(50, 7)), measured(50, 7)},
		{alike(1, measured(50, 3)), measured(50, 3)},
		{allMeasured([2]int{0, 999}, [2]int{90, 1000}), measured(30, 578)},
		{allMeasured([2]int{0, 600}, [2]int{100, 1000}), measured(25, 500)},
		// All are the same one.
		{alike(2, measured(50, 1)), measured(50, 1)},
		{alike(10, measured(50, 1)), measured(50, 1)},
		{alike(10, measured(impl.MaxAge, 1)), measured(impl.MaxAge, 1)},
		{alike(10, measured(impl.MaxAge, 1000)), measured(impl.MaxAge, 317)},
		{alike(10, measured(0, 999)), measured(0, 224)},
		{alike(9, measured(7, 30)), measured(7, 10)},
	} {
		checkMean(t, c.list, c.want)
	}
	for _, count := range []int{0, 11, 12, 100, 10000} {
		checkMean(t, alike(count, measured(50, 5)), impl.Measurement{})
	}
	checkMean(t, nil, impl.Measurement{})
}

// TestCombinedErrorsAreRoots: of 10^6 divided by the sum of the weights, exactly or rounded up.
func TestCombinedErrorsAreRoots(t *testing.T) {
	for _, c := range []struct {
		errors []int
		want   int
	}{
		{[]int{1}, 1}, {[]int{10}, 10}, {[]int{500}, 500}, {[]int{1000}, 1000},
		{[]int{10, 10, 10, 10}, 5}, {[]int{1000, 1000, 1000, 1000}, 500}, {[]int{999, 999}, 500}, {[]int{300, 500}, 250}, {[]int{2, 2, 2, 2}, 1},
		{[]int{10, 10, 10}, 6}, {[]int{1000, 1000, 1000}, 578}, {[]int{1000, 1000}, 708},
		// The sums of the weights are 399 and 400.
		{[]int{100, 100, 100, 125, 200, 333}, 51}, {[]int{100, 100, 100, 125, 200, 333, 1000}, 50},
		// 111111 and 111112: 9 * 111111 is 1 less than 10^6.
		{[]int{4, 5, 11, 54, 600}, 4}, {[]int{4, 5, 11, 54, 600, 1000}, 3}, {[]int{4, 5, 11, 54, 501}, 3},
		// 999999 and 10^6.
		{[]int{2, 2, 2, 3, 3, 7, 12, 49, 500}, 2}, {[]int{2, 2, 2, 3, 3, 7, 12, 49, 500, 1000}, 1},
	} {
		list := []impl.Measurement{}
		for _, err := range c.errors {
			list = append(list, measured(80, err))
		}
		checkMean(t, list, measured(80, c.want))
		checkMean(t, backward(list), measured(80, c.want))
	}
}

func TestAgreementOf(t *testing.T) {
	for _, c := range []struct {
		list      []impl.Measurement
		low, high int
	}{
		{allMeasured([2]int{100, 10}, [2]int{130, 10}), 110, 120},
		{allMeasured([2]int{130, 10}, [2]int{100, 10}), 110, 120},
		{allMeasured([2]int{100, 10}), 80, 120},
		{allMeasured([2]int{100, 10}, [2]int{100, 1}), 98, 102},
		{allMeasured([2]int{100, 10}, [2]int{115, 1}, [2]int{90, 12}), 113, 114},
		// A single Age.
		{allMeasured([2]int{100, 10}, [2]int{140, 10}), 120, 120},
		{allMeasured([2]int{140, 10}, [2]int{100, 10}), 120, 120},
		{allMeasured([2]int{0, 1}, [2]int{4, 1}), 2, 2},
		{allMeasured([2]int{0, 1}, [2]int{1, 1}, [2]int{2, 1}, [2]int{3, 1}, [2]int{4, 1}), 2, 2},
		{allMeasured([2]int{impl.MaxAge, 1}, [2]int{impl.MaxAge - 4, 1}), impl.MaxAge - 2, impl.MaxAge - 2},
		// Ages at 0 and at MaxAge.
		{allMeasured([2]int{0, 1}), 0, 2},
		{allMeasured([2]int{2, 1}), 0, 4},
		{allMeasured([2]int{3, 1}), 1, 5},
		{allMeasured([2]int{5, 10}), 0, 25},
		{allMeasured([2]int{0, impl.MaxError}), 0, 2 * impl.MaxError},
		{allMeasured([2]int{impl.MaxAge, 1}), impl.MaxAge - 2, impl.MaxAge},
		{allMeasured([2]int{impl.MaxAge - 2, 1}), impl.MaxAge - 4, impl.MaxAge},
		{allMeasured([2]int{impl.MaxAge - 3, 1}), impl.MaxAge - 5, impl.MaxAge - 1},
		{allMeasured([2]int{impl.MaxAge, impl.MaxError}), impl.MaxAge - 2*impl.MaxError, impl.MaxAge},
		{allMeasured([2]int{impl.MaxAge, 2}, [2]int{impl.MaxAge - 1, 3}), impl.MaxAge - 4, impl.MaxAge},
		{alike(10, measured(100, 10)), 80, 120},
		{append(alike(9, measured(100, 10)), measured(140, 10)), 120, 120},
	} {
		checkAgreement(t, c.list, c.low, c.high, true)
		checkAgreement(t, backward(c.list), c.low, c.high, true)
	}
	for _, list := range [][]impl.Measurement{
		allMeasured([2]int{100, 1}, [2]int{130, 1}), allMeasured([2]int{100, 10}, [2]int{141, 10}), allMeasured([2]int{0, 1}, [2]int{5, 1}),
		allMeasured([2]int{0, 1}, [2]int{impl.MaxAge, 1}), allMeasured([2]int{0, impl.MaxError}, [2]int{impl.MaxAge, impl.MaxError}),
		allMeasured([2]int{100, 10}, [2]int{120, 10}, [2]int{141, 10}), append(alike(9, measured(100, 10)), measured(141, 10)),
		nil, {}, alike(11, measured(100, 10)), alike(12, measured(100, 10)), alike(10000, measured(100, 10)),
	} {
		checkAgreement(t, list, 0, 0, false)
		checkAgreement(t, backward(list), 0, 0, false)
	}
}

func TestCurveTurns(t *testing.T) {
	zigzag := []int{}
	for i := range 40 {
		zigzag = append(zigzag, 50+i%2)
	}
	inner := []int{}
	for year := 1; year <= 38; year++ {
		inner = append(inner, year)
	}
	for _, c := range []struct {
		curve []impl.CurvePoint
		want  []int
	}{
		{bend(), []int{4}},
		{yearly(0, 50, 40), nil}, {yearly(0, 40, 50), nil}, {yearly(0, 40, 40), nil},
		{yearly(7, 50, 60, 50), []int{8}}, {yearly(7, 50, 40, 50), []int{8}}, {yearly(7, 50, 51, 0), []int{8}}, {yearly(7, 50, 49, 60), []int{8}},
		{yearly(7, 40, 50, 60), nil}, {yearly(7, 60, 50, 40), nil},
		// Ages that stay the same.
		{yearly(7, 50, 50, 50), nil}, {yearly(7, 50, 50, 60), nil}, {yearly(7, 50, 50, 40), nil}, {yearly(7, 50, 60, 60), nil}, {yearly(7, 50, 40, 40), nil},
		{yearly(7, 50, 60, 60, 50), nil}, {yearly(7, 50, 40, 40, 50), nil}, {yearly(7, 50, 60, 60, 70), nil}, {yearly(7, 50, 60, 60, 50, 60), []int{10}},
		// Several turns.
		{yearly(7, 50, 60, 50, 60), []int{8, 9}}, {yearly(7, 60, 50, 60, 50, 40, 30, 35), []int{8, 9, 12}}, {yearly(7, 1, 2, 3, 2, 1, 2, 3), []int{9, 11}},
		{yearly(0, zigzag...), inner},
		{yearly(impl.MinYear, 0, impl.MaxAge, 0), []int{impl.MinYear + 1}}, {yearly(impl.MaxYear-2, impl.MaxAge, 0, impl.MaxAge), []int{impl.MaxYear - 1}},
		{evenly(0, 10, 40), nil}, {level(-100, 299, 700, 5), nil},
		// Errors and the distances of points have no turns, and neither have rounded Ages between points.
		{curveOf([3]int{0, 50, 1}, [3]int{1, 50, 9}, [3]int{2, 50, 1}), nil},
		{curveOf([3]int{0, 50, 9}, [3]int{10, 51, 1}, [3]int{60, 52, 9}), nil},
		{curveOf([3]int{-40, 50, 9}, [3]int{0, 1, 1}, [3]int{1, 2, 9}), []int{0}},
	} {
		checkTurns(t, c.curve, c.want, true)
	}
}

func TestShiftCurve(t *testing.T) {
	shifted := func(curve []impl.CurvePoint, age, err int) []impl.CurvePoint {
		result := []impl.CurvePoint{}
		for _, p := range curve {
			result = append(result, point(p.Year, p.Age+age, p.Error+err))
		}
		return result
	}
	checkShiftedCurve(t, bend(), 5, -10, curveOf([3]int{0, 105, 0}, [3]int{4, 95, 10}, [3]int{6, 99, 10}))
	for _, curve := range append([][]impl.CurvePoint{bend(), yearly(0, 3, 8)}, slices.Collect(maps.Values(soundCurves()))...) {
		leastAge, greatestAge, leastErr, greatestErr := impl.MaxAge, 0, impl.MaxError, 0
		for _, p := range curve {
			leastAge, greatestAge = min(leastAge, p.Age), max(greatestAge, p.Age)
			leastErr, greatestErr = min(leastErr, p.Error), max(greatestErr, p.Error)
		}
		down, up := -leastAge, impl.MaxAge-greatestAge
		less, more := -leastErr, impl.MaxError-greatestErr
		for _, age := range []int{0, down, up, (down + up) / 2} {
			for _, err := range []int{0, less, more, (less + more) / 2} {
				checkShiftedCurve(t, curve, age, err, shifted(curve, age, err))
			}
		}
		// Beyond the limits by one, by far, and as far as an int goes.
		for _, age := range []int{down - 1, up + 1, down - impl.MaxAge, up + impl.MaxAge, math.MinInt, math.MaxInt, math.MinInt + 1, math.MaxInt - leastAge, math.MaxInt - greatestAge + 1} {
			checkShiftedCurve(t, curve, age, 0, nil)
			checkShiftedCurve(t, curve, age, less, nil)
			checkShiftedCurve(t, curve, age, math.MaxInt, nil)
		}
		for _, err := range []int{less - 1, more + 1, less - impl.MaxError, more + impl.MaxError, math.MinInt, math.MaxInt, math.MinInt + 1, math.MaxInt - leastErr, math.MaxInt - greatestErr + 1} {
			checkShiftedCurve(t, curve, 0, err, nil)
			checkShiftedCurve(t, curve, up, err, nil)
			checkShiftedCurve(t, curve, math.MinInt, err, nil)
		}
	}
}

func TestWigglePlacement(t *testing.T) {
	none := impl.Distribution{}
	two := curveOf([3]int{10, 50, 0}, [3]int{12, 48, 0})
	pair := allMeasured([2]int{50, 1}, [2]int{49, 1})
	for _, c := range []struct {
		curve []impl.CurvePoint
		list  []impl.Measurement
		gaps  []int
		want  impl.Distribution
	}{
		{two, pair, []int{1}, weighted(10, 9, 4)},
		{two, pair, []int{0}, weighted(10, 3, 3, 1)},
		{two, pair, []int{2}, weighted(10, 1)},
		{two, backward(pair), []int{1}, weighted(10, 4, 3)},
		{two, backward(pair), []int{2}, weighted(10, 1)},
		{two, alike(1, pair[0]), nil, weighted(10, 3, 2, 1)},
		{two, alike(1, pair[0]), []int{}, weighted(10, 3, 2, 1)},
		{two, alike(2, pair[0]), []int{0}, weighted(10, 9, 4, 1)},
		{two, alike(6, pair[0]), make([]int, 5), weighted(10, 729, 64, 1)},
		// The last sample is in the last year, or after it.
		{two, alike(3, pair[0]), []int{1, 1}, weighted(10, 1)},
		{two, alike(3, pair[0]), []int{0, 2}, weighted(10, 1)},
		{two, alike(3, pair[0]), []int{2, 0}, weighted(10, 1)},
		{two, alike(3, pair[0]), []int{1, 0}, weighted(10, 6, 1)},
		{two, alike(3, pair[0]), []int{0, 1}, weighted(10, 9, 2)},
		{two, alike(3, pair[0]), []int{1, 2}, none},
		{two, alike(3, pair[0]), []int{2, 1}, none},
		{two, pair, []int{3}, none},
		{two, pair, []int{100}, none},
		{two, alike(6, pair[0]), []int{100, 100, 100, 100, 100}, none},
		// Distances are sums of gaps.
		{yearly(0, 90, 50, 90, 50, 50, 90, 90, 50, 90), alike(4, measured(50, 1)), []int{2, 1, 3}, weighted(1, 1)},
		{yearly(0, 90, 50, 90, 50, 50, 90, 90, 50, 90), alike(4, measured(50, 1)), []int{2, 3, 1}, none},
		{yearly(0, 10, 20, 30, 40, 50, 60), allMeasured([2]int{20, 1}, [2]int{40, 2}, [2]int{50, 3}, [2]int{60, 9}), []int{2, 1, 1}, weighted(1, 1)},
		{yearly(0, 10, 20, 30, 40, 50, 60), allMeasured([2]int{60, 2}, [2]int{40, 2}), []int{2}, none},
		{yearly(0, 60, 50, 40, 30, 20, 10), allMeasured([2]int{50, 10}, [2]int{30, 6}), []int{2}, weighted(0, 11, 91, 11)},
		// Weights that are 0 for one of the samples.
		{yearly(5, 50, 80, 50, 50), alike(2, measured(50, 2)), []int{1}, weighted(7, 1)},
		{yearly(5, 50, 80, 50, 50), alike(2, measured(50, 2)), []int{2}, weighted(5, 1)},
		{yearly(5, 50, 80, 50, 50), alike(2, measured(50, 2)), []int{3}, weighted(5, 1)},
		{yearly(5, 50, 80, 50, 50), alike(2, measured(50, 2)), []int{0}, weighted(5, 1, 0, 1, 1)},
		{yearly(5, 50, 80, 50, 80), allMeasured([2]int{50, 2}, [2]int{80, 2}), []int{0}, none},
		{yearly(impl.MinYear, 50, 49), alike(2, measured(50, 1)), []int{0}, weighted(impl.MinYear, 9, 4)},
		{yearly(impl.MinYear, 50, 49), alike(2, measured(50, 1)), []int{1}, weighted(impl.MinYear, 1)},
		{yearly(impl.MaxYear-1, 50, 49), alike(2, measured(50, 1)), []int{0}, weighted(impl.MaxYear-1, 9, 4)},
		{yearly(impl.MaxYear-1, 50, 49), alike(2, measured(50, 1)), []int{1}, weighted(impl.MaxYear-1, 1)},
		{yearly(impl.MaxYear-1, 50, 49), alike(2, measured(50, 1)), []int{2}, none},
	} {
		checkPlaced(t, c.curve, c.list, c.gaps, c.want)
	}
}

func TestPlacementsOfFlawedGaps(t *testing.T) {
	none := impl.Distribution{}
	curve, m := level(0, 59, 50, 1), measured(50, 5)
	for count := range 9 {
		for gaps := range 9 {
			want := none
			if 1 <= count && count <= 6 && gaps == count-1 {
				want = even(0, 60)
			}
			checkPlaced(t, curve, alike(count, m), make([]int, gaps), want)
		}
	}
	checkPlaced(t, curve, alike(10000, m), make([]int, 9999), none)
	checkPlaced(t, curve, alike(2, m), make([]int, 10000), none)
	for count := 2; count <= 6; count++ {
		for i := range count - 1 {
			for _, gap := range []int{-1, -2, 101, 102, -100, 1000, math.MinInt, math.MaxInt, math.MaxInt - 50} {
				gaps := make([]int, count-1)
				gaps[i] = gap
				checkPlaced(t, curve, alike(count, m), gaps, none)
				if i > 0 {
					// A gap that another one makes up for.
					gaps[0] = 100
					checkPlaced(t, curve, alike(count, m), gaps, none)
					gaps[0] = -gap
					checkPlaced(t, curve, alike(count, m), gaps, none)
				}
			}
		}
	}
}

// TestPlacementsOfManyYears: a longer distance leaves fewer years.
func TestPlacementsOfManyYears(t *testing.T) {
	none := impl.Distribution{}
	m := measured(700, 5)
	checkPlaced(t, level(0, 60, 700, 5), alike(1, m), nil, none)
	checkPlaced(t, level(0, 60, 700, 5), alike(2, m), []int{0}, none)
	checkPlaced(t, level(0, 60, 700, 5), alike(2, m), []int{1}, even(0, 60))
	checkPlaced(t, level(0, 60, 700, 5), alike(2, m), []int{60}, weighted(0, 1))
	checkPlaced(t, level(0, 60, 700, 5), alike(2, m), []int{61}, none)
	long := level(-100, 299, 700, 5)
	checkPlaced(t, long, alike(4, m), []int{100, 100, 100}, none)
	checkPlaced(t, long, alike(5, m), []int{100, 100, 100, 39}, none)
	checkPlaced(t, long, alike(5, m), []int{100, 100, 100, 40}, even(-100, 60))
	checkPlaced(t, long, alike(5, m), []int{40, 100, 100, 100}, even(-100, 60))
	checkPlaced(t, long, alike(5, m), []int{100, 100, 100, 99}, weighted(-100, 1))
	checkPlaced(t, long, alike(5, m), []int{100, 100, 100, 100}, none)
	checkPlaced(t, long, alike(6, m), []int{80, 80, 80, 80, 79}, weighted(-100, 1))
	checkPlaced(t, long, alike(6, m), []int{80, 80, 80, 80, 80}, none)
	checkPlaced(t, long, alike(6, m), []int{0, 100, 100, 100, 70}, even(-100, 30))
	checkPlaced(t, level(0, 100, 700, 5), alike(2, m), []int{100}, weighted(0, 1))
	checkPlaced(t, level(0, 101, 700, 5), alike(2, m), []int{100}, even(0, 2))
	checkPlaced(t, level(0, 101, 700, 5), alike(2, m), []int{101}, none)
	checkPlaced(t, level(0, 159, 700, 5), alike(2, m), []int{100}, even(0, 60))
	checkPlaced(t, level(0, 159, 700, 5), alike(2, m), []int{101}, none)
	checkPlaced(t, level(0, 159, 700, 5), alike(3, m), []int{101, 0}, none)
	checkPlaced(t, level(0, 159, 700, 5), alike(3, m), []int{0, 101}, none)
	checkPlaced(t, level(0, 159, 700, 5), alike(3, m), []int{101, -1}, none)
	checkPlaced(t, level(impl.MaxYear-399, impl.MaxYear, 700, 5), alike(5, m), []int{100, 100, 100, 99}, weighted(impl.MaxYear-399, 1))
}

// TestPlacementsOfGreatProducts: of 10^12 exactly and greater, which are valid only after reducing.
func TestPlacementsOfGreatProducts(t *testing.T) {
	none := impl.Distribution{}
	flat := yearly(0, 5000, 5000)
	thousand, more := measured(4999, 500), measured(5000, 500)
	hundred := measured(5001, 50)
	checkPlaced(t, flat, alike(2, thousand), []int{0}, even(0, 2))
	checkPlaced(t, flat, alike(4, thousand), []int{0, 0, 0}, even(0, 2))
	checkPlaced(t, flat, alike(4, thousand), []int{0, 0, 1}, weighted(0, 1))
	checkPlaced(t, flat, alike(6, hundred), make([]int, 5), even(0, 2))
	checkPlaced(t, flat, append(alike(4, thousand), measured(5002, 1)), make([]int, 4), even(0, 2))
	checkPlaced(t, flat, append(alike(4, thousand), measured(5001, 1)), make([]int, 4), none)
	checkPlaced(t, flat, append(alike(5, hundred), measured(5000, 50)), make([]int, 5), none)
	checkPlaced(t, flat, append(alike(5, hundred), measured(5002, 50)), make([]int, 5), even(0, 2))
	for i := range 4 {
		list := alike(4, thousand)
		list[i] = more
		checkPlaced(t, flat, list, []int{0, 0, 0}, none)
		list[i] = measured(5002, 500)
		checkPlaced(t, flat, list, []int{0, 0, 0}, even(0, 2))
	}
	checkPlaced(t, level(0, 1, 5000, impl.MaxError), alike(3, measured(5000, impl.MaxError)), []int{0, 0}, even(0, 2))
	checkPlaced(t, level(0, 1, 5000, impl.MaxError), alike(4, measured(5000, impl.MaxError)), []int{0, 0, 0}, none)
	checkPlaced(t, level(0, 1, 5000, impl.MaxError), alike(6, measured(5000, impl.MaxError)), make([]int, 5), none)
	// The least product above 10^12 is that of 3061, 2041, 2501 and 64.
	above := allMeasured([2]int{5000, 530}, [2]int{5000, 20}, [2]int{5000, 250}, [2]int{5000 - 1939, 1})
	below := allMeasured([2]int{5000, 530}, [2]int{5000, 20}, [2]int{5000, 250}, [2]int{5000 - 1940, 1})
	checkPlaced(t, level(0, 1, 5000, impl.MaxError), above, []int{0, 0, 0}, none)
	checkPlaced(t, level(0, 1, 5000, impl.MaxError), below, []int{0, 0, 0}, even(0, 2))
	// Weights of at most MaxWeight after reducing.
	checkPlaced(t, yearly(0, 5000, 5999), alike(2, thousand), []int{0}, weighted(0, impl.MaxWeight, 1))
	checkPlaced(t, yearly(0, 4999, 5999), alike(2, thousand), []int{0}, none)
	checkPlaced(t, yearly(0, 5000, 5998), alike(2, thousand), []int{0}, weighted(0, 250_000, 1))
	checkPlaced(t, yearly(0, 5999, 5000), alike(4, thousand), []int{0, 0, 0}, none)
}

// TestPlacementsFailForAnyGreatProduct: of the first samples, even if a later one has the weight 0.
func TestPlacementsFailForAnyGreatProduct(t *testing.T) {
	none := impl.Distribution{}
	// In the year 0, four samples have a product above 10^12, and the fifth one has the weight 0.
	slope := yearly(0, 5000, 3500)
	great, sharp := measured(5000, impl.MaxError), measured(3500, 1)
	checkPlaced(t, slope, append(alike(4, great), sharp), make([]int, 4), none)
	checkPlaced(t, slope, append([]impl.Measurement{sharp}, alike(4, great)...), make([]int, 4), weighted(1, 1))
	checkPlaced(t, slope, slices.Insert(alike(4, great), 3, sharp), make([]int, 4), weighted(1, 1))
	checkPlaced(t, slope, append(alike(3, great), sharp, sharp), make([]int, 4), weighted(1, 1))
	// Only in the last year four samples have such a product, and the fifth one is outside of the curve.
	rise := yearly(0, 3000, 5000)
	checkPlaced(t, rise, alike(4, great), []int{0, 0, 1}, weighted(0, 1))
	checkPlaced(t, rise, alike(5, great), []int{0, 0, 0, 1}, none)
	checkPlaced(t, rise, alike(5, great), []int{0, 0, 1, 0}, weighted(0, 1))
}

func plainlyRounded(x *big.Rat) int {
	whole := new(big.Int).Quo(x.Num(), x.Denom())
	rest := new(big.Rat).Sub(x, new(big.Rat).SetInt(whole))
	if new(big.Rat).Abs(rest).Cmp(big.NewRat(1, 2)) >= 0 {
		whole.Add(whole, big.NewInt(int64(x.Sign())))
	}
	return int(whole.Int64())
}

// plainAt takes the last point up to a year and the first one from it on.
func plainAt(curve []impl.CurvePoint, year int) (int, int, bool) {
	before, after := -1, -1
	for i, p := range curve {
		if p.Year <= year {
			before = i
		}
		if p.Year >= year && after < 0 {
			after = i
		}
	}
	if before < 0 || after < 0 {
		return 0, 0, false
	}
	p, q := curve[before], curve[after]
	if before == after {
		return p.Age, p.Error, true
	}
	part := big.NewRat(int64(year-p.Year), int64(q.Year-p.Year))
	along := func(from, to int) int {
		slope := big.NewRat(int64(to-from), 1)
		return from + plainlyRounded(slope.Mul(slope, part))
	}
	return along(p.Age, q.Age), along(p.Error, q.Error), true
}

func plainWeight(curve []impl.CurvePoint, m impl.Measurement, year int) int {
	age, err, found := plainAt(curve, year)
	distance := m.Age - age
	if distance < 0 {
		distance = -distance
	}
	if weight := 1 + 2*m.Error + 2*err - distance; found && weight > 0 {
		return weight
	}
	return 0
}

// plainPlacement fails, like WigglePlacement, if the product of some weights is too great.
func plainPlacement(curve []impl.CurvePoint, list []impl.Measurement, gaps []int) impl.Distribution {
	weights := []int{}
	limit := big.NewInt(1_000_000_000_000)
	for first := curve[0].Year; first <= curve[len(curve)-1].Year; first++ {
		product, year := big.NewInt(1), first
		for i, m := range list {
			product.Mul(product, big.NewInt(int64(plainWeight(curve, m, year))))
			if product.Cmp(limit) > 0 {
				return impl.Distribution{}
			}
			if i < len(gaps) {
				year += gaps[i]
			}
		}
		weights = append(weights, int(product.Int64()))
	}
	return plainlyReduced(curve[0].Year, weights)
}

func plainTurns(curve []impl.CurvePoint) []int {
	years := []int{}
	for i := 1; i+1 < len(curve); i++ {
		if (curve[i].Age-curve[i-1].Age)*(curve[i].Age-curve[i+1].Age) > 0 {
			years = append(years, curve[i].Year)
		}
	}
	return years
}

func plainMean(list []impl.Measurement) impl.Measurement {
	sum, weights := new(big.Rat), new(big.Rat)
	for _, m := range list {
		weight := 1
		for weight*m.Error*m.Error < 1_000_000 {
			weight++
		}
		sum.Add(sum, big.NewRat(int64(weight*m.Age), 1))
		weights.Add(weights, big.NewRat(int64(weight), 1))
	}
	mean := sum.Quo(sum, weights)
	best := 0
	for err := impl.MaxError; err >= 1; err-- {
		if new(big.Rat).Mul(weights, big.NewRat(int64(err*err), 1)).Cmp(big.NewRat(1_000_000, 1)) >= 0 {
			best = err
		}
	}
	return measured(int(new(big.Int).Quo(mean.Num(), mean.Denom()).Int64()), best)
}

// plainAgreement returns the Ages in 0..MaxAge that belong to all Measurements.
func plainAgreement(list []impl.Measurement) []int {
	ages := []int{}
	for age := 0; age <= impl.MaxAge; age++ {
		belongs := func(m impl.Measurement) bool { return age <= m.Age+2*m.Error && m.Age <= age+2*m.Error }
		if !slices.ContainsFunc(list, func(m impl.Measurement) bool { return !belongs(m) }) {
			ages = append(ages, age)
		}
	}
	return ages
}

// checkWholeCurve holds every function of a curve alone against fractions.
func checkWholeCurve(t *testing.T, curve []impl.CurvePoint, bounds ...int) {
	t.Helper()
	if !impl.IsValidCurve(curve) {
		t.Errorf("%v is not valid", curve)
	}
	first, last := curve[0].Year, curve[len(curve)-1].Year
	for year := first - 2; year <= last+2; year++ {
		age, err, found := plainAt(curve, year)
		checkCurveAt(t, curve, year, age, err, found)
	}
	for _, low := range bounds {
		for _, high := range bounds {
			years := []int{}
			for year := first; year <= last; year++ {
				if age, _, _ := plainAt(curve, year); low <= age && age <= high {
					years = append(years, year)
				}
			}
			checkWithin(t, curve, low, high, years, true)
		}
	}
	checkTurns(t, curve, plainTurns(curve), true)
}

func checkPlainlyCalibrated(t *testing.T, curve []impl.CurvePoint, m impl.Measurement) bool {
	t.Helper()
	want := plainPlacement(curve, alike(1, m), nil)
	checkCalibrated(t, curve, m, want)
	return len(want.Weights) > 0
}

func checkPlainlyPlaced(t *testing.T, curve []impl.CurvePoint, list []impl.Measurement, gaps []int) bool {
	t.Helper()
	want := plainPlacement(curve, list, gaps)
	checkPlaced(t, curve, list, gaps, want)
	return len(want.Weights) > 0
}

func checkPlainlyMeasured(t *testing.T, list []impl.Measurement) bool {
	t.Helper()
	checkMean(t, list, plainMean(list))
	ages := plainAgreement(list)
	if len(ages) == 0 {
		checkAgreement(t, list, 0, 0, false)
		return false
	}
	checkAgreement(t, list, ages[0], ages[len(ages)-1], true)
	return true
}

// eachShortCurve calls use with all curves of three points up to 4 years apart, with low Ages.
func eachShortCurve(use func(curve []impl.CurvePoint, i int)) {
	i := 0
	for steps := range 16 {
		for ages := range 125 {
			i++
			from, to := 1+steps%4, 1+steps/4
			use(curveOf([3]int{-2, ages % 5, i % 3}, [3]int{from - 2, ages / 5 % 5, i / 3 % 3}, [3]int{from + to - 2, ages / 25, i / 9 % 4}), i)
		}
	}
}

func TestEveryShortCurve(t *testing.T) {
	eachShortCurve(func(curve []impl.CurvePoint, i int) {
		checkWholeCurve(t, curve, -1, 0, 1, 2, 3, 4, 5)
		checkWholeCurve(t, curve[:2], -1, 1, 3)
		for age := range 9 {
			checkPlainlyCalibrated(t, curve, measured(age, 1))
			checkPlainlyCalibrated(t, curve, measured(age, 1+i%2))
			checkPlainlyCalibrated(t, curve[1:], measured(age, 1+i%3))
			first, second, third := measured(age, 1), measured(i%7, 1+i%2), measured(i%5, 1)
			checkPlainlyPlaced(t, curve, []impl.Measurement{first, second}, []int{i % 4})
			checkPlainlyPlaced(t, curve, []impl.Measurement{second, third, first}, []int{i % 3, age % 4})
		}
	})
}

// chosenCurve has up to count points, with Ages that differ by up to slope from one to the next.
func chosenCurve(source *rand.Rand, count, step, slope, err int) []impl.CurvePoint {
	curve := []impl.CurvePoint{point(source.Intn(41)-20, 30000+source.Intn(100), source.Intn(err+1))}
	for len(curve) < 2 || source.Intn(count) > 0 && len(curve) < count {
		p := curve[len(curve)-1]
		next := point(p.Year+1+source.Intn(step), p.Age+source.Intn(2*slope+1)-slope, source.Intn(err+1))
		if next.Year-curve[0].Year >= 400 {
			break
		}
		curve = append(curve, next)
	}
	return curve
}

// chosenSamples have Ages near those of the curve in their years.
func chosenSamples(source *rand.Rand, curve []impl.CurvePoint, count, err int) ([]impl.Measurement, []int) {
	list, gaps := []impl.Measurement{}, []int{}
	first, last := curve[0].Year, curve[len(curve)-1].Year
	year := first + source.Intn(last-first+1)
	for len(list) < count {
		age, _, _ := plainAt(curve, min(year, last))
		m := measured(0, 1+source.Intn(err))
		m.Age = age + source.Intn(2*m.Error+1) - m.Error
		list = append(list, m)
		gaps = append(gaps, min(source.Intn(4), source.Intn(100)))
		year += gaps[len(gaps)-1]
	}
	return list, gaps[:count-1]
}

func TestChosenCurves(t *testing.T) {
	source := rand.New(rand.NewSource(11))
	calibrated, placed := 0, 0
	for range 80 {
		for _, limits := range [][4]int{{6, 4, 9, 2}, {10, 20, 400, 10}, {40, 10, 60, 30}, {40, 50, 700, 0}} {
			curve := chosenCurve(source, limits[0], limits[1], limits[2], limits[3])
			middle := curve[len(curve)/2].Age
			checkWholeCurve(t, curve, 0, middle-20, middle, middle+5, impl.MaxAge)
			for count := range 7 {
				list, gaps := chosenSamples(source, curve, max(1, count), 1+limits[3])
				if checkPlainlyCalibrated(t, curve, list[0]) {
					calibrated++
				}
				if count > 0 && checkPlainlyPlaced(t, curve, list, gaps) {
					placed++
				}
			}
		}
	}
	if calibrated < 1000 || calibrated > 2000 || placed < 800 || placed > 1600 {
		t.Errorf("of the chosen samples, %d are calibrated, and %d are placed", calibrated, placed)
	}
}

// chosenMeasurements have Ages up to spread apart.
func chosenMeasurements(source *rand.Rand, count, spread, err int) []impl.Measurement {
	list := []impl.Measurement{}
	least := []int{0, (impl.MaxAge - spread) / 2, impl.MaxAge - spread}[source.Intn(3)]
	for range count {
		list = append(list, measured(least+source.Intn(spread+1), 1+source.Intn(err)))
	}
	return list
}

func TestChosenMeasurements(t *testing.T) {
	source := rand.New(rand.NewSource(12))
	agreed, tested := 0, 0
	for count := 1; count <= 10; count++ {
		for _, limits := range [][2]int{{2, 1}, {9, 3}, {30, 10}, {300, 150}, {2000, impl.MaxError}, {impl.MaxAge, impl.MaxError}} {
			for range 4 {
				list := chosenMeasurements(source, count, limits[0], limits[1])
				tested++
				if checkPlainlyMeasured(t, list) {
					agreed++
				}
			}
		}
	}
	if agreed < tested/4 || agreed > tested*3/4 {
		t.Errorf("of %d lists of Measurements, %d agree", tested, agreed)
	}
}

// TestEveryError: a single Measurement of every Error, and two and three of them.
func TestEveryError(t *testing.T) {
	for err := 1; err <= impl.MaxError; err++ {
		for count := 1; count <= 3; count++ {
			list := alike(count, measured(700+err, err))
			checkMean(t, list, measured(700+err, plainMean(alike(count, measured(0, err))).Error))
		}
	}
}

// checkFollowsCurve checks promise 11 in the results alone: the weights of a distribution have
// the proportions of the distances from the curve.
func checkFollowsCurve(t *testing.T, curve []impl.CurvePoint, m impl.Measurement) bool {
	t.Helper()
	d, ok := impl.CalibrateAge(curve, m)
	if !ok {
		return false
	}
	raw := func(year int) int {
		age, err, found := impl.CurveAt(curve, year)
		if !found {
			return 0
		}
		return max(0, 1+2*(m.Error+err)-max(m.Age-age, age-m.Age))
	}
	known, _, _ := impl.WeightAt(d, d.First)
	for year := curve[0].Year - 3; year <= curve[len(curve)-1].Year+3; year++ {
		weight, _, _ := impl.WeightAt(d, year)
		if weight*raw(d.First) != known*raw(year) {
			t.Errorf("%v, %v: the weight %d of %d in %v does not follow the curve", curve, m, weight, year, d)
		}
	}
	return true
}

// checkPairPlaced: two samples are placed like the product of their distributions.
func checkPairPlaced(t *testing.T, curve []impl.CurvePoint, pair []impl.Measurement, gap int) bool {
	t.Helper()
	first, ok := impl.CalibrateAge(curve, pair[0])
	second, alsoOk := impl.CalibrateAge(curve, pair[1])
	if !ok || !alsoOk {
		return false
	}
	earlier, ok := impl.ShiftDistribution(second, -gap)
	if !ok {
		t.Fatalf("ShiftDistribution(%v, %d) fails", second, -gap)
	}
	want, ok := impl.CombineDistributions(first, earlier)
	checkPlaced(t, curve, pair, []int{gap}, want)
	return ok
}

// checkShiftsBack: a curve that is shifted with its samples gives the same years.
func checkShiftsBack(t *testing.T, curve []impl.CurvePoint, m impl.Measurement, age, err int) {
	t.Helper()
	shifted, ok := impl.ShiftCurve(curve, age, err)
	if !ok {
		t.Fatalf("ShiftCurve(%v, %d, %d) fails", curve, age, err)
	}
	checkShiftedCurve(t, shifted, -age, -err, curve)
	turns, _ := impl.CurveTurns(curve)
	checkTurns(t, shifted, turns, true)
	years, _ := impl.YearsWithin(curve, m.Age-9, m.Age)
	checkWithin(t, shifted, m.Age-9+age, m.Age+age, years, true)
	d, _ := impl.CalibrateAge(curve, measured(m.Age, m.Error+err))
	checkCalibrated(t, shifted, measured(m.Age+age, m.Error), d)
}

func TestCalibratedWeightsFollowTheCurve(t *testing.T) {
	source := rand.New(rand.NewSource(13))
	followed, placed := 0, 0
	for range 500 {
		for _, limits := range [][4]int{{5, 4, 9, 3}, {8, 12, 300, 12}, {40, 9, 90, 40}} {
			curve := chosenCurve(source, limits[0], limits[1], limits[2], limits[3])
			list, gaps := chosenSamples(source, curve, 2, 1+limits[3])
			if checkFollowsCurve(t, curve, list[0]) {
				followed++
			}
			if checkPairPlaced(t, curve, list, gaps[0]) {
				placed++
			}
			checkShiftsBack(t, curve, list[0], source.Intn(5000), source.Intn(60))
		}
	}
	if followed < 500 || placed < 300 {
		t.Errorf("only %d samples were calibrated, and %d pairs placed", followed, placed)
	}
}

// checkPrecision checks promise 11 in the results alone: a mean is as precise as each part, or more so.
func checkPrecision(t *testing.T, list []impl.Measurement) {
	t.Helper()
	mean, ok := impl.CombineMeasurements(list)
	if !ok {
		t.Fatalf("CombineMeasurements(%v) fails", list)
	}
	least, greatest := list[0].Age, list[0].Age
	for _, m := range list {
		least, greatest = min(least, m.Age), max(greatest, m.Age)
		if mean.Error > m.Error {
			t.Errorf("the mean %v of %v is less precise than %v", mean, list, m)
		}
	}
	if mean.Age < least || mean.Age > greatest || mean.Error < 1 {
		t.Errorf("the mean of %v is %v", list, mean)
	}
	for i := range list {
		if part, ok := impl.CombineMeasurements(slices.Delete(slices.Clone(list), i, i+1)); ok && mean.Error > part.Error {
			t.Errorf("the mean %v of %v is less precise than that of a part, %v", mean, list, part)
		}
	}
	checkMean(t, backward(list), mean)
}

func TestMeansAreNotLessPreciseThanTheirParts(t *testing.T) {
	source := rand.New(rand.NewSource(14))
	for count := 1; count <= 10; count++ {
		for range 200 {
			for _, err := range []int{1, 5, 30, 200, impl.MaxError} {
				checkPrecision(t, chosenMeasurements(source, count, 500, err))
			}
		}
	}
	for err := 1; err <= impl.MaxError; err++ {
		checkPrecision(t, alike(1, measured(5, err)))
		checkPrecision(t, allMeasured([2]int{5, err}, [2]int{9, impl.MaxError}))
		checkPrecision(t, allMeasured([2]int{5, err}, [2]int{9, err}, [2]int{0, impl.MaxError - err + 1}))
	}
}

// calibrationLists calls every function of the chapter that returns lists of numbers, some twice.
func calibrationLists(curve []impl.CurvePoint, list []impl.Measurement, gaps []int) [][]int {
	lists := [][]int{}
	for range 2 {
		within, _ := impl.YearsWithin(curve, 0, impl.MaxAge)
		turns, _ := impl.CurveTurns(curve)
		lists = append(lists, within, turns)
		calibrated, _ := impl.CalibrateAge(curve, list[0])
		lists = append(lists, calibrated.Weights)
		placed, _ := impl.WigglePlacement(curve, list, gaps)
		single, _ := impl.WigglePlacement(curve, list[:1], gaps[:0])
		lists = append(lists, placed.Weights, single.Weights)
	}
	return lists
}

// shiftedLists calls the function of the chapter that returns points, also with a shift of 0.
func shiftedLists(curve []impl.CurvePoint) [][]impl.CurvePoint {
	lists := [][]impl.CurvePoint{}
	for _, shift := range [][2]int{{0, 0}, {0, 0}, {7, 1}, {-1, 0}, {math.MaxInt, 0}} {
		shifted, _ := impl.ShiftCurve(curve, shift[0], shift[1])
		lists = append(lists, shifted)
	}
	return lists
}

// checkMemoryOfCurves passes slices that have more elements beyond their lengths.
func checkMemoryOfCurves(t *testing.T, plain []impl.CurvePoint, measurements []impl.Measurement, distances []int) {
	t.Helper()
	wholeCurve := append(slices.Clone(plain), plain[len(plain)-1], point(math.MinInt, -1, -1), point(math.MaxInt, 0, 0))
	wholeList := append(slices.Clone(measurements), measured(-1, 0), measured(50, 5))
	wholeGaps := append(slices.Clone(distances), 3, -1, math.MaxInt)
	curveBefore, listBefore, gapsBefore := slices.Clone(wholeCurve), slices.Clone(wholeList), slices.Clone(wholeGaps)
	curve, list, gaps := wholeCurve[:len(plain)], wholeList[:len(measurements)], wholeGaps[:len(distances)]
	numbers, points := calibrationLists(plain, measurements, distances), shiftedLists(plain)
	name := "results for curves"
	checkSeparate(t, name, calibrationLists(curve, list, gaps), numbers)
	checkSeparate(t, name, backward(calibrationLists(curve, list, gaps)), backward(numbers))
	checkSeparate(t, name, shiftedLists(curve), points)
	checkSeparate(t, name, backward(shiftedLists(curve)), backward(points))
	checkWholeCurve(t, curve, 0, impl.MaxAge)
	checkMean(t, list, plainMean(measurements))
	low, high, ok := impl.AgreementOf(measurements)
	checkAgreement(t, list, low, high, ok)
	if !slices.Equal(wholeCurve, curveBefore) || !slices.Equal(wholeList, listBefore) || !slices.Equal(wholeGaps, gapsBefore) {
		t.Errorf("the arguments became %v, %v, %v; they were %v, %v, %v", wholeCurve, wholeList, wholeGaps, curveBefore, listBefore, gapsBefore)
	}
}

func TestMemoryOfCurves(t *testing.T) {
	checkMemoryOfCurves(t, bend(), allMeasured([2]int{95, 7}, [2]int{92, 5}), []int{1})
	checkMemoryOfCurves(t, yearly(7, 50, 48), allMeasured([2]int{50, 1}), nil)
	source := rand.New(rand.NewSource(15))
	for range 300 {
		curve := chosenCurve(source, 12, 5, 30, 10)
		list, gaps := chosenSamples(source, curve, 1+source.Intn(6), 8)
		checkMemoryOfCurves(t, curve, list, gaps)
	}
	for _, curve := range soundCurves() {
		checkMemoryOfCurves(t, curve, allMeasured([2]int{curve[0].Age, 1}, [2]int{50, 5}), []int{0})
	}
}

// TestRefusedArgumentsStayTheSame: nothing is modified before a function fails.
func TestRefusedArgumentsStayTheSame(t *testing.T) {
	for _, m := range flawedMeasurements() {
		list, gaps := []impl.Measurement{measured(95, 7), m, measured(92, 7)}, []int{1, 2}
		before := slices.Clone(list)
		checkMean(t, list, impl.Measurement{})
		checkAgreement(t, list, 0, 0, false)
		checkPlaced(t, bend(), list, gaps, impl.Distribution{})
		if !slices.Equal(list, before) || !slices.Equal(gaps, []int{1, 2}) {
			t.Errorf("%v became %v, with the gaps %v", before, list, gaps)
		}
	}
}
