package order

import (
	"math/big"
	"slices"
	"strings"
	"testing"

	"newel/api"
	"newel/words"
)

func list(l ...api.Word) []api.Word               { return l }
func of(kind int, text string) api.Word           { return api.Word{Kind: kind, Text: text} }
func one(kind int, text string) []api.Word        { return list(of(kind, text)) }
func nothings(n int) []api.Word                   { return slices.Repeat(one(api.Nothing, ""), n) }
func join(a []api.Word, b ...api.Word) []api.Word { return slices.Concat(a, b) }

func sign(below, above bool) int {
	switch {
	case below:
		return -1
	case above:
		return 1
	}
	return 0
}

// wantWords asks both ways round: what is below from here is above from there.
func wantWords(t *testing.T, a, b []api.Word, want int) {
	t.Helper()
	if got := Words(a, b); got != want {
		t.Errorf("P6.1: Words(%.200v, %.200v): %d; want %d", a, b, got, want)
	}
	if got := Words(b, a); got != -want {
		t.Errorf("P6.1: Words(%.200v, %.200v): %d; want %d", b, a, got, -want)
	}
}

func wantCompare(t *testing.T, a, b string, want int) {
	t.Helper()
	if got := Compare(a, b); got != want {
		t.Errorf("P6.1: Compare(%.80q, %.80q): %d; want %d", a, b, got, want)
	}
	if got := Compare(b, a); got != -want {
		t.Errorf("P6.1: Compare(%.80q, %.80q): %d; want %d", b, a, got, -want)
	}
}

func wantGreatest(t *testing.T, l []string, want string) {
	t.Helper()
	if got, is := Greatest(l...); got != want || !is {
		t.Errorf("P6.2: Greatest(%.200q): %.80q, %v; want %.80q", l, got, is, want)
	}
}

func wantSort(t *testing.T, l []string, want ...string) {
	t.Helper()
	if got := Sort(l); !slices.Equal(got, want) {
		t.Errorf("P6.2: Sort(%.200q): %.200q; want %.200q", l, got, want)
	}
}

func TestWordsByKind(t *testing.T) {
	kinds := []int{api.Alpha, api.Beta, api.Milestone, api.Candidate, api.Snapshot, api.Nothing, api.Pack, api.Other, api.Dashed, api.Dotted}
	for i, a := range kinds {
		for k, b := range kinds {
			// The texts speak against the kinds: of two kinds they have no say.
			for _, texts := range [][2]string{{"", ""}, {"1", "1"}, {"z", "a"}, {"a", "z"}, {"999", "1"}, {"1", "999"}} {
				if i != k {
					wantWords(t, one(a, texts[0]), one(b, texts[1]), sign(i < k, i > k))
				}
			}
			wantWords(t, one(a, "7"), one(b, "7"), sign(i < k, i > k))
		}
	}
}

func TestWordsOfOneKind(t *testing.T) {
	for _, kind := range []int{api.Alpha, api.Beta, api.Milestone, api.Candidate, api.Snapshot, api.Nothing, api.Pack, 0, -1, 11, 99} {
		for _, texts := range [][2]string{{"", "x"}, {"a", "b"}, {"b", "a"}, {"12", "9"}, {"1", "12"}} {
			wantWords(t, one(kind, texts[0]), one(kind, texts[1]), 0)
			wantWords(t, list(of(kind, texts[0]), of(api.Dotted, "1")), list(of(kind, texts[1]), of(api.Dotted, "2")), -1)
		}
	}
}

func TestWordsOthers(t *testing.T) {
	rising := []string{"", "\x00", "!", "10", "9", "A", "Z", "_", "a", "a\x00", "aa", "ab", "abc", "b", "ba", "z", "zz", "\x7f", "\x80", "\u00e4", "\xff", "\xff\xff"}
	for i, a := range rising {
		for k, b := range rising {
			wantWords(t, one(api.Other, a), one(api.Other, b), sign(i < k, i > k))
		}
	}
}

func TestWordsNumbers(t *testing.T) {
	rising := []string{"1", "2", "9", "10", "11", "19", "20", "91", "99", "100", "101", "110", "199", "200", "999", "1000",
		"9223372036854775807", "9223372036854775808", "18446744073709551615", "18446744073709551616", "99999999999999999999", "100000000000000000000",
		"1" + strings.Repeat("0", 99), "1" + strings.Repeat("0", 98) + "1", strings.Repeat("9", 100), "1" + strings.Repeat("0", 100)}
	for i, a := range rising {
		for k, b := range rising {
			wantWords(t, one(api.Dotted, a), one(api.Dotted, b), sign(i < k, i > k))
			wantWords(t, one(api.Dashed, a), one(api.Dashed, b), sign(i < k, i > k))
			wantWords(t, one(api.Dashed, a), one(api.Dotted, b), -1)
		}
	}
	// What no version brings: each digit counts, a nought ahead too; a number may have none.
	for _, kind := range []int{api.Dashed, api.Dotted} {
		wantWords(t, one(kind, "007"), one(kind, "8"), 1)
		wantWords(t, one(kind, "007"), one(kind, "7"), 1)
		wantWords(t, one(kind, "007"), one(kind, "100"), -1)
		wantWords(t, one(kind, ""), one(kind, "0"), -1)
		wantWords(t, one(kind, ""), one(kind, ""), 0)
		wantWords(t, one(kind, ""), nil, 1)
	}
}

func TestWordsAgainstNumbers(t *testing.T) {
	for a := range int64(120) {
		for b := range int64(120) {
			x, y := big.NewInt(a+1), big.NewInt(b+1)
			wantWords(t, one(api.Dotted, x.String()), one(api.Dotted, y.String()), x.Cmp(y))
			wantWords(t, one(api.Dashed, x.String()), one(api.Dashed, y.String()), x.Cmp(y))
		}
	}
}

func TestWordsShorter(t *testing.T) {
	wantWords(t, nil, nil, 0)
	wantWords(t, nil, []api.Word{}, 0)
	for n := range 5 {
		wantWords(t, nil, nothings(n), 0)
		for _, kind := range []int{api.Alpha, api.Beta, api.Milestone, api.Candidate, api.Snapshot, 0, -7} {
			wantWords(t, nil, join(nothings(n), of(kind, "9")), 1)
			wantWords(t, one(api.Dotted, "1"), join(join(one(api.Dotted, "1"), nothings(n)...), of(kind, "")), 1)
		}
		for _, kind := range []int{api.Pack, api.Other, api.Dashed, api.Dotted, 11, 99} {
			wantWords(t, nil, join(nothings(n), of(kind, "")), -1)
			wantWords(t, one(api.Dotted, "1"), join(join(one(api.Dotted, "1"), nothings(n)...), of(kind, "")), -1)
		}
		wantWords(t, one(api.Dotted, "1"), join(one(api.Dotted, "1"), nothings(n)...), 0)
		wantWords(t, one(api.Dotted, "1"), join(one(api.Dotted, "2"), nothings(n)...), -1)
	}
}

func TestWordsFirstPlaceTells(t *testing.T) {
	a := list(of(api.Dotted, "1"), of(api.Other, "x"), of(api.Dashed, "5"))
	wantWords(t, a, slices.Clone(a), 0)
	wantWords(t, a, list(of(api.Dotted, "2"), of(api.Alpha, "")), -1)
	wantWords(t, a, list(of(api.Dotted, "1"), of(api.Other, "w"), of(api.Dotted, "9"), of(api.Dotted, "9")), 1)
	wantWords(t, a, list(of(api.Dotted, "1"), of(api.Other, "x"), of(api.Dashed, "4"), of(api.Dotted, "9")), 1)
	wantWords(t, a, list(of(api.Dotted, "1"), of(api.Other, "x"), of(api.Dotted, "1")), -1)
	wantWords(t, a, list(of(api.Dotted, "1"), of(api.Other, "x")), 1)
	// However far behind: the place that tells is found.
	for _, n := range []int{1, 99, 100, 101, 200_000} {
		long := slices.Repeat(one(api.Dotted, "3"), n)
		wantWords(t, long, long, 0)
		wantWords(t, long, join(long, of(api.Alpha, "")), 1)
		wantWords(t, long, join(long, of(api.Pack, "")), -1)
		wantWords(t, join(long, of(api.Other, "a")), join(long, of(api.Other, "b")), -1)
	}
}

func TestWordsLeavesItsArguments(t *testing.T) {
	room := list(of(api.Dotted, "1"), of(api.Other, "x"), of(api.Dashed, "8"), of(api.Dashed, "9"))
	kept := slices.Clone(room)
	Words(room[:1], room[:3])
	Words(room[:3], room[:1])
	if !slices.Equal(room, kept) {
		t.Errorf("R3: Words turned its argument to %v", room)
	}
}

// rows holds what rises from row to row; those of one row count the same.
var rows = [][]string{
	{"alpha", "Alpha", "a0", "0-alpha", "0.0.alpha", "alpha.0", "alpha-ga"}, {"a1", "alpha1", "alpha-1", "alpha01"}, {"a2"}, {"alpha-10"}, {"alpha.1"},
	{"beta"}, {"b1", "beta-1"}, {"milestone"}, {"m3", "milestone3"}, {"cr", "rc", "RC", "Cr"}, {"rc-1", "cr1"}, {"rc-2"}, {"snapshot", "SNAPSHOT", "0-snapshot"},
	{"", "0", "00", ".", "-", "0.0", "ga", "FINAL", "release", "final-0"}, {"0.0.1", "..1"}, {"0.1", ".1"}, {"0.2"}, {"sp", "SP", "0-sp"}, {"sp1"},
	{"a", "A"}, {"ab", "aB"}, {"b"}, {"x", "X", "0x"}, {"x1", "x-1"}, {"x.1"}, {"xa"}, {"0-1", "-1"},
	{"1-alpha", "1alpha", "1.0-ALPHA", "1.alpha"}, {"1-alpha-1", "1a1", "1.0-alpha1"}, {"1-beta"}, {"1-m1"}, {"1-rc", "1cr", "1.0.0.cr"}, {"1-SNAPSHOT", "1.0-snapshot"},
	{"1", "1.", "1-", "01", "1.0", "1.0.0", "1-ga", "1.0.Final", "1.release.0", "1-0"}, {"1.0.0.1"}, {"1.0.1", "1.0.01"}, {"1.0.2"},
	{"1-sp", "1.0-SP", "1sp"}, {"1-sp-1"}, {"1-jre", "1.0.jre"}, {"1-x"}, {"1-1", "1.0-1", "1--1"}, {"1-1.1"}, {"1-2"}, {"1-10"},
	{"1.1-alpha"}, {"1.1-rc"}, {"1.1-SNAPSHOT"}, {"1.1", "1.1.0"}, {"1.1.1"}, {"1.2"}, {"1.9"}, {"1.10"}, {"1.100"}, {"2-rc1"}, {"2"}, {"9"}, {"10"}, {"20"}, {"100"},
	{"9223372036854775808"}, {"99999999999999999999"}, {"100000000000000000000", "0100000000000000000000"},
}

func TestCompare(t *testing.T) {
	for i, r := range rows {
		for k, s := range rows {
			for _, a := range r {
				for _, b := range s {
					wantCompare(t, a, b, sign(i < k, i > k))
				}
			}
		}
	}
}

// TestCompareExample holds the chapter's example.
func TestCompareExample(t *testing.T) {
	wantCompare(t, "1-alpha", "1", -1)
	wantCompare(t, "1", "1.0", 0)
	wantCompare(t, "1.0", "1-sp", -1)
	wantCompare(t, "1-sp", "1-x", -1)
	wantCompare(t, "1-x", "1-1", -1)
	wantCompare(t, "1-1", "1.1", -1)
}

func TestCompareWrongVersions(t *testing.T) {
	// What is no version is compared by its words all the same.
	wantCompare(t, "[1]", "[2]", -1)
	wantCompare(t, "1 ", "1", 1)
	wantCompare(t, " 1", "1", -1)
	wantCompare(t, "1\x00", "1\x01", -1)
	wantCompare(t, "\u00e4", "\u00f6", -1)
	wantCompare(t, "\u00c4", "\u00e4", -1)
	wantCompare(t, "\xff", "\xfe", 1)
	wantCompare(t, "1.\xff", "1.\xff.0", 0)
	long := strings.Repeat("1.", 100_000)
	wantCompare(t, long, long+"0.0", 0)
	wantCompare(t, long, long+"1", -1)
	wantCompare(t, long, long+"rc", 1)
	wantCompare(t, strings.Repeat("9", 300_000), "1"+strings.Repeat("0", 300_000), -1)
}

// everyVersion answers all versions of up to n pieces, each once.
func everyVersion(n int, pieces ...string) []string {
	all := []string{""}
	last := all
	for range n {
		var longer []string
		for _, v := range last {
			for _, p := range pieces {
				longer = append(longer, v+p)
			}
		}
		all = append(all, longer...)
		last = longer
	}
	slices.Sort(all)
	return slices.Compact(all)
}

// weigh tells the words of v as one list of numbers and letters, filled up with Nothing to n words.
func weigh(v string, n int) []string {
	var l []string
	for _, w := range words.Split(v) {
		switch w.Kind {
		case api.Other:
			l = append(l, string(rune('a'+w.Kind))+w.Text)
		case api.Dashed, api.Dotted:
			l = append(l, string(rune('a'+w.Kind))+strings.Repeat("0", 20-len(w.Text))+w.Text)
		default:
			l = append(l, string(rune('a'+w.Kind)))
		}
	}
	for len(l) < n {
		l = append(l, string(rune('a'+api.Nothing)))
	}
	return l
}

func TestCompareEveryShortVersion(t *testing.T) {
	all := everyVersion(4, "0", "1", ".", "-", "a", "rc")
	weights := make([][]string, len(all))
	for i, v := range all {
		weights[i] = weigh(v, 12)
	}
	for i, a := range all {
		for k, b := range all {
			if got, want := Compare(a, b), slices.Compare(weights[i], weights[k]); got != want {
				t.Fatalf("P6.1: Compare(%q, %q): %d; want %d", a, b, got, want)
			}
		}
	}
}

// TestThreeFitTogether is what follows: no three versions go round in a ring.
func TestThreeFitTogether(t *testing.T) {
	all := append(everyVersion(2, "0", "1", "2", ".", "-", "a", "x", "rc", "sp", "ga"), "1.0-alpha1", "1.0-1", "1-1.0.1", "x.0.1", "1.0.1-sp")
	n := len(all)
	signs := make([]int, n*n)
	for i, a := range all {
		for k, b := range all {
			signs[i*n+k] = Compare(a, b)
		}
	}
	for i := range n {
		if signs[i*n+i] != 0 {
			t.Errorf("What follows: %q is not the same as itself", all[i])
		}
		for k := range n {
			if signs[i*n+k] != -signs[k*n+i] {
				t.Errorf("What follows: %q and %q do not fit together", all[i], all[k])
			}
			for m := range n {
				if a, b, c := signs[i*n+k], signs[k*n+m], signs[i*n+m]; a <= 0 && b <= 0 && c != min(a, b) {
					t.Fatalf("What follows: %q, %q and %q do not fit together: %d, %d, %d", all[i], all[k], all[m], a, b, c)
				}
			}
		}
	}
}

func TestGreatest(t *testing.T) {
	for i, r := range rows {
		for _, a := range r {
			wantGreatest(t, []string{a}, a)
			wantGreatest(t, []string{a, a}, a)
		}
		want := slices.Max(r)
		wantGreatest(t, r, want)
		for k := range i {
			wantGreatest(t, slices.Concat(r, rows[k]), want)
			wantGreatest(t, slices.Concat(rows[k], r), want)
			wantGreatest(t, slices.Concat(rows[k], r, rows[k]), want)
		}
	}
	wantGreatest(t, []string{"1", "1.0", "1.0.0"}, "1.0.0")
	wantGreatest(t, []string{"1.0.0", "1.0", "1"}, "1.0.0")
	wantGreatest(t, []string{"1-ga", "1.0", "1.Final", "01"}, "1.Final")
	wantGreatest(t, []string{"1.ga", "1.GA"}, "1.ga")
	wantGreatest(t, []string{"rc", "cr", "RC"}, "rc")
	// Of those that count the same, bytes tell; of others they have no say.
	wantGreatest(t, []string{"9", "10", "1.9.9"}, "10")
	wantGreatest(t, []string{"x", "1-alpha"}, "1-alpha")
	wantGreatest(t, []string{"1-SNAPSHOT", "1"}, "1")
	wantGreatest(t, []string{"", ""}, "")
	wantGreatest(t, []string{"", "rc", "alpha"}, "")
	wantGreatest(t, []string{"1.\xff", "1.\xfe", "1.\u00e4"}, "1.\xff")
}

func TestGreatestOfNone(t *testing.T) {
	for _, l := range [][]string{nil, {}} {
		if v, is := Greatest(l...); v != "" || is {
			t.Errorf("P6.2: Greatest of none: %q, %v", v, is)
		}
	}
	if v, is := Greatest(); v != "" || is {
		t.Errorf("P6.2: Greatest(): %q, %v", v, is)
	}
}

// orders goes through all orders of l.
func orders(l []string, visit func([]string)) {
	var fill func(int)
	fill = func(n int) {
		if n == len(l) {
			visit(slices.Clone(l))
			return
		}
		for i := n; i < len(l); i++ {
			l[n], l[i] = l[i], l[n]
			fill(n + 1)
			l[n], l[i] = l[i], l[n]
		}
	}
	fill(0)
}

func TestInWhateverOrder(t *testing.T) {
	sorted := []string{"rc", "1-rc", "1", "1.0", "1.0.0", "1.ga", "2"}
	orders(slices.Clone(sorted), func(l []string) {
		wantSort(t, l, sorted...)
		wantGreatest(t, l, "2")
		wantGreatest(t, slices.DeleteFunc(l, func(v string) bool { return v == "2" }), "1.ga")
	})
}

func TestSort(t *testing.T) {
	wantSort(t, nil)
	wantSort(t, []string{})
	wantSort(t, []string{""}, "")
	wantSort(t, []string{"1"}, "1")
	wantSort(t, []string{"2", "1"}, "1", "2")
	wantSort(t, []string{"1.1", "2", "1.0", "1", "1-rc", "10", "1.1"}, "1-rc", "1", "1.0", "1.1", "1.1", "2", "10")
	// One that is there twice stays there twice.
	wantSort(t, []string{"1", "1.0", "1", "1.0", "1"}, "1", "1", "1", "1.0", "1.0")
	wantSort(t, []string{"1.ga", "1.GA", "1.Ga", "1-GA", "1", "01"}, "01", "1", "1-GA", "1.GA", "1.Ga", "1.ga")
	wantSort(t, []string{"", "0", "rc", "cr", "x", "[1]", "1 "}, "cr", "rc", "", "0", "[1]", "x", "1 ")
}

func TestSortRows(t *testing.T) {
	var rising []string
	for _, r := range rows {
		sorted := slices.Clone(r)
		slices.Sort(sorted)
		rising = append(rising, sorted...)
	}
	falling := slices.Clone(rising)
	slices.Reverse(falling)
	var mixed []string
	for i := range falling {
		mixed = append(mixed, rising[i*53%len(rising)])
	}
	wantSort(t, rising, rising...)
	wantSort(t, falling, rising...)
	if len(rising)%53 != 0 {
		wantSort(t, mixed, rising...)
	} else {
		t.Error("the rows are not mixed: take another step")
	}
}

func TestSortMany(t *testing.T) {
	all := everyVersion(5, "0", "1", ".", "-", "a", "rc")
	slices.Reverse(all)
	got := Sort(all)
	for i := 1; i < len(got); i++ {
		if n := Compare(got[i-1], got[i]); n > 0 || n == 0 && got[i-1] >= got[i] {
			t.Fatalf("P6.2: Sort: %q ahead of %q", got[i-1], got[i])
		}
	}
	last, is := Greatest(all...)
	if !is || len(got) != len(all) || last != got[len(got)-1] {
		t.Errorf("P6.2: Sort of %d: %d with %q at the end; the greatest is %q", len(all), len(got), got[len(got)-1], last)
	}
	slices.Sort(all)
	slices.Sort(got)
	if !slices.Equal(got, all) {
		t.Error("P6.2: Sort left some out")
	}
}

func TestNewMemory(t *testing.T) {
	for n := range 5 {
		room := []string{"3", "1", "2", "0", "9", "8"}
		kept := slices.Clone(room)
		got := Sort(room[:n])
		Greatest(room[:n]...)
		if !slices.Equal(room, kept) {
			t.Errorf("R3: Sort turned its argument to %q", room)
		}
		all := got[:cap(got)]
		for i := range all {
			all[i] = "turned"
		}
		if !slices.Equal(room, kept) {
			t.Errorf("R3: Sort hands out its argument: %q", room)
		}
	}
}
