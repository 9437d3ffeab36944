package tests

import (
	"fmt"
	"math"
	"slices"
	"strings"
	"testing"

	"loop.example/onecounter/impl"
)

func TestNumbersOfDesks(t *testing.T) {
	if kinds := [5]int{impl.DkCome, impl.DkGo, impl.DkNeed, impl.DkLater, impl.DkBack}; kinds != [5]int{0, 1, 2, 3, 4} {
		t.Errorf("the kinds of deeds are %v", kinds)
	}
	if impl.MaxPast != 8 || impl.MaxLines != 40 {
		t.Errorf("there are %d lists of before, and %d lines", impl.MaxPast, impl.MaxLines)
	}
}

// Promise 59: desks can forget.
func TestPromise59DeskOk(t *testing.T) {
	for _, d := range goodDesks() {
		if !impl.DeskOk(d) {
			t.Fatalf("DeskOk(%v) is false", d)
		}
		if !impl.DeskOk(impl.Desk{Now: d.Now}) {
			t.Fatalf("DeskOk(%v) is false without lists of before", d)
		}
	}
	for _, d := range append(badDesks(), someBadDesks()...) {
		if impl.DeskOk(d) {
			t.Fatalf("DeskOk(%v) is true", d)
		}
	}
	for many := range 20 {
		for _, past := range [][][]impl.Customer{make([][]impl.Customer, many), pastOf(many)} {
			if got := impl.DeskOk(desk(list(0, 1), past...)); got != (many <= 8) {
				t.Errorf("DeskOk is %v with %d lists of before", got, many)
			}
		}
	}
}

// Promise 60: new desks have one list.
func TestPromise60DeskNew(t *testing.T) {
	for _, all := range append(goodLists(), nil, []impl.Customer{}, list(0, 1), same(8, 60, 9)) {
		d, ok := impl.DeskNew(all)
		if !ok || !slices.Equal(d.Now, all) || len(d.Past) != 0 || !impl.DeskOk(d) {
			t.Fatalf("DeskNew(%v) is %v, %v", all, d, ok)
		}
	}
	for _, all := range append(othersOfEachKind(), badLists()...) {
		if d, ok := impl.DeskNew(all); ok || !nothing(d) {
			t.Fatalf("DeskNew(%v) is %v, %v", all, d, ok)
		}
	}
}

// doneCase has a desk after a deed, and whether it was done.
type doneCase struct {
	before impl.Desk
	a      impl.Deed
	after  impl.Desk
	done   bool
}

func doneCases() []doneCase {
	none, one, two, eight := desk(nil), desk(list(5, 2)), desk(list(0, 3, 1, 1), list(0, 3)), desk(same(8, 60, 9))
	full := desk(list(1, 1), pastOf(8)...)
	return []doneCase{
		{none, deed(0, 0, 1), desk(list(0, 1), nil), true}, {none, deed(0, 60, 9), desk(list(60, 9), nil), true}, {none, deed(0, 61, 9), none, false}, {none, deed(0, 60, 10), none, false}, {none, deed(0, 0, 0), none, false}, {none, deed(0, -1, 1), none, false}, {none, deed(0, 1, -1), none, false},
		{one, deed(0, 5, 1), desk(list(5, 2, 5, 1), list(5, 2)), true}, {one, deed(0, 4, 1), one, false}, {one, deed(0, math.MaxInt, 1), one, false}, {one, deed(0, 7, math.MaxInt), one, false}, {one, deed(0, math.MinInt, math.MinInt), one, false},
		{desk(same(7, 60, 9)), deed(0, 60, 1), desk(append(same(7, 60, 9), list(60, 1)...), same(7, 60, 9)), true}, {eight, deed(0, 60, 1), eight, false},
		// The last one goes, up to nobody.
		{none, deed(1, 0, 0), none, false}, {one, deed(1, 0, 0), desk(nil, list(5, 2)), true}, {two, deed(1, 0, 0), desk(list(0, 3), list(0, 3), list(0, 3, 1, 1)), true}, {eight, deed(1, 0, 0), desk(same(7, 60, 9), same(8, 60, 9)), true}, {two, deed(1, 1, 0), two, false}, {two, deed(1, 0, 1), two, false}, {two, deed(1, -1, 0), two, false}, {two, deed(1, 0, math.MinInt), two, false},
		// One needs more.
		{none, deed(2, 0, 0), none, false}, {one, deed(2, 0, 0), desk(list(5, 3), list(5, 2)), true}, {one, deed(2, 1, 0), one, false}, {one, deed(2, -1, 0), one, false}, {one, deed(2, 0, 1), one, false}, {two, deed(2, 1, 0), desk(list(0, 3, 1, 2), list(0, 3), list(0, 3, 1, 1)), true}, {two, deed(2, 2, 0), two, false}, {two, deed(2, 0, -1), two, false}, {two, deed(2, math.MaxInt, 0), two, false}, {eight, deed(2, 7, 0), eight, false}, {desk(same(8, 60, 8)), deed(2, 7, 0), desk(append(same(7, 60, 8), list(60, 9)...), same(8, 60, 8)), true},
		// All come later.
		{none, deed(3, 1, 0), none, false}, {none, deed(3, 0, 0), none, false}, {one, deed(3, 0, 0), one, false}, {one, deed(3, 1, 0), desk(list(6, 2), list(5, 2)), true}, {one, deed(3, 55, 0), desk(list(60, 2), list(5, 2)), true}, {one, deed(3, 56, 0), one, false}, {one, deed(3, -1, 0), one, false}, {one, deed(3, -5, 0), one, false}, {one, deed(3, 1, 1), one, false}, {one, deed(3, math.MaxInt, 0), one, false}, {one, deed(3, math.MinInt, 0), one, false}, {two, deed(3, 59, 0), desk(list(59, 3, 60, 1), list(0, 3), list(0, 3, 1, 1)), true}, {two, deed(3, 60, 0), two, false}, {desk(list(0, 1)), deed(3, 60, 0), desk(list(60, 1), list(0, 1)), true}, {desk(list(0, 1)), deed(3, 61, 0), desk(list(0, 1)), false},
		// The list of before is put back.
		{none, deed(4, 0, 0), none, false}, {one, deed(4, 0, 0), one, false}, {two, deed(4, 0, 0), desk(list(0, 3)), true}, {two, deed(4, 1, 0), two, false}, {two, deed(4, 0, 1), two, false}, {two, deed(4, 0, -1), two, false}, {two, deed(4, math.MinInt, 0), two, false}, {desk(list(0, 1), nil), deed(4, 0, 0), none, true}, {desk(nil, list(1, 1), list(2, 2)), deed(4, 0, 0), desk(list(2, 2), list(1, 1)), true}, {desk(same(8, 0, 1), same(8, 60, 9), nil), deed(4, 0, 0), desk(nil, same(8, 60, 9)), true},
		// There are as many lists of before as there may be.
		{full, deed(0, 1, 2), desk(list(1, 1, 1, 2), append(pastOf(8)[1:], list(1, 1))...), true}, {full, deed(1, 0, 0), desk(nil, append(pastOf(8)[1:], list(1, 1))...), true}, {full, deed(2, 0, 0), desk(list(1, 2), append(pastOf(8)[1:], list(1, 1))...), true}, {full, deed(3, 3, 0), desk(list(4, 1), append(pastOf(8)[1:], list(1, 1))...), true}, {full, deed(4, 0, 0), desk(pastOf(8)[7], pastOf(7)...), true}, {full, deed(0, 0, 1), full, false}, {full, deed(2, 1, 0), full, false},
		{desk(list(1, 1), pastOf(7)...), deed(2, 0, 0), desk(list(1, 2), append(pastOf(7), list(1, 1))...), true}, {full, deed(5, 0, 0), full, false}, {full, deed(-1, 0, 0), full, false}, {one, deed(math.MaxInt, 0, 1), one, false}, {one, deed(math.MinInt, 5, 1), one, false}, {none, deed(5, 0, 1), none, false},
		// Desks that are none.
		{desk(list(1, 1), pastOf(9)...), deed(4, 0, 0), none, false}, {desk(list(1, 1), pastOf(9)...), deed(2, 0, 0), none, false}, {desk(list(1, 0)), deed(2, 0, 0), none, false}, {desk(same(9, 0, 1)), deed(1, 0, 0), none, false}, {desk(list(1, 0), list(1, 1)), deed(4, 0, 0), none, false}, {desk(nil, list(2, 1, 1, 1)), deed(4, 0, 0), none, false}, {desk(list(0, 1), list(0, 10), nil), deed(4, 0, 0), none, false}, {desk(nil, same(9, 0, 1)), deed(0, 0, 1), none, false},
	}
}

// Promise 55: what was done can be undone.
func TestPromise55DeskDo(t *testing.T) {
	for _, c := range doneCases() {
		if got, done := impl.DeskDo(c.before, c.a); done != c.done || !sameDesk(got, c.after) {
			t.Errorf("DeskDo(%v, %v) is %v, %v, not %v, %v", c.before, c.a, got, done, c.after, c.done)
		}
	}
	done, undone := 0, 0
	for _, d := range goodDesks() {
		for _, a := range allDeeds() {
			if checkDone(t, d, a) {
				done++
			} else {
				undone++
			}
		}
	}
	if done < 500 || undone < 10000 {
		t.Fatalf("%d are done, %d are not", done, undone)
	}
	for seed := range uint32(100) {
		d := desk(nil)
		for _, a := range chanceDeeds(seed, 40) {
			checkDone(t, d, a)
			d, _ = impl.DeskDo(d, a)
		}
	}
}

func checkDone(t *testing.T, d impl.Desk, a impl.Deed) bool {
	t.Helper()
	after, done := impl.DeskDo(d, a)
	if want, can := doneByWords(d, a); done != can || !sameDesk(after, want) {
		t.Fatalf("DeskDo(%v, %v) is %v, %v, not %v, %v", d, a, after, done, want, can)
	}
	if !impl.DeskOk(after) || !done && !sameDesk(after, d) {
		t.Fatalf("DeskDo(%v, %v) is %v, %v", d, a, after, done)
	}
	if !done || a.Kind == impl.DkBack {
		return done
	}
	back, undone := impl.DeskDo(after, impl.Deed{Kind: impl.DkBack})
	if !undone || !slices.Equal(back.Now, d.Now) || len(d.Past) < 8 && !sameDesk(back, d) || len(d.Past) == 8 && !slices.EqualFunc(back.Past, d.Past[1:], slices.Equal) {
		t.Fatalf("%v after %v is %v, and back it is %v, %v", d, a, after, back, undone)
	}
	before, need := impl.NeedOf(d.Now), impl.NeedOf(after.Now)
	if more := a.Kind == impl.DkNeed || a.Kind == impl.DkCome; more && need <= before || a.Kind == impl.DkLater && need != before {
		t.Fatalf("%v needs %d, and after %v %d", d.Now, before, a, need)
	}
	return true
}

func TestPromise55DeskDoOfOthers(t *testing.T) {
	for _, d := range badDesks() {
		for _, a := range []impl.Deed{deed(0, 60, 1), deed(0, 0, 1), deed(1, 0, 0), deed(2, 0, 0), deed(3, 1, 0), deed(4, 0, 0), deed(5, 0, 0)} {
			if after, done := impl.DeskDo(d, a); done || !nothing(after) {
				t.Fatalf("DeskDo(%v, %v) is %v, %v", d, a, after, done)
			}
		}
	}
	for _, d := range someBadDesks() {
		for _, a := range allDeeds() {
			if after, done := impl.DeskDo(d, a); done || !nothing(after) {
				t.Fatalf("DeskDo(%v, %v) is %v, %v", d, a, after, done)
			}
		}
	}
}

// Promise 56: whatever is done, it is customers.
func TestPromise56DeskRun(t *testing.T) {
	two := desk(list(0, 3, 1, 1))
	deeds := []impl.Deed{deed(0, 6, 1), deed(2, 1, 0), deed(1, 0, 0), deed(3, 0, 0), deed(7, 0, 0), deed(4, 0, 0), deed(3, 2, 0)}
	if got, many := impl.DeskRun(two, deeds); many != 5 || !sameDesk(got, desk(list(2, 3, 3, 2, 8, 1), list(0, 3, 1, 1), list(0, 3, 1, 1, 6, 1), list(0, 3, 1, 2, 6, 1))) {
		t.Errorf("DeskRun is %v, %d", got, many)
	}
	if got, many := impl.DeskRun(two, slices.Repeat([]impl.Deed{deed(2, 1, 0), deed(4, 0, 0)}, 20)); many != 40 || !sameDesk(got, two) {
		t.Errorf("after 40 deeds DeskRun is %v, %d", got, many)
	}
	for _, d := range goodDesks() {
		for _, deeds := range [][]impl.Deed{nil, {}, {deed(5, 0, 0)}, {deed(4, 0, 0)}, {deed(1, 0, 0), deed(0, 60, 9)}, slices.Repeat([]impl.Deed{deed(4, 0, 0)}, 40), slices.Repeat([]impl.Deed{deed(0, 60, 1)}, 40), slices.Repeat([]impl.Deed{deed(9, 9, 9)}, 40)} {
			checkRun(t, d, deeds)
		}
		for seed := range uint32(8) {
			checkRun(t, d, chanceDeeds(seed, 5*int(seed)))
		}
	}
	for seed := range uint32(200) {
		checkRun(t, desk(nil), chanceDeeds(seed, 40))
	}
}

func checkRun(t *testing.T, d impl.Desk, deeds []impl.Deed) {
	t.Helper()
	got, many := impl.DeskRun(d, deeds)
	if want, wanted := ranByWords(d, deeds); many != wanted || !sameDesk(got, want) {
		t.Fatalf("DeskRun(%v, %v) is %v, %d, not %v, %d", d, deeds, got, many, want, wanted)
	}
	if !impl.DeskOk(got) || !impl.CustomersOk(got.Now) {
		t.Fatalf("DeskRun(%v, %v) is %v", d, deeds, got)
	}
	for cut := range len(deeds) + 1 {
		middle, first := impl.DeskRun(d, deeds[:cut])
		if after, second := impl.DeskRun(middle, deeds[cut:]); first+second != many || !sameDesk(after, got) {
			t.Fatalf("DeskRun(%v, %v) is %v, %d, and in two parts, from %d on, %v, %d and %d", d, deeds, got, many, cut, after, first, second)
		}
	}
}

func TestPromise56DeskRunOfOthers(t *testing.T) {
	refused := func(d impl.Desk, deeds []impl.Deed) {
		t.Helper()
		if got, many := impl.DeskRun(d, deeds); many != 0 || !nothing(got) {
			t.Fatalf("DeskRun(%v, %v) is %v, %d", d, deeds, got, many)
		}
	}
	for _, d := range append(badDesks(), someBadDesks()...) {
		for _, deeds := range [][]impl.Deed{nil, {}, {deed(0, 60, 1)}, {deed(4, 0, 0)}, {deed(1, 0, 0), deed(1, 0, 0)}, chanceDeeds(1, 40), chanceDeeds(1, 41)} {
			refused(d, deeds)
		}
	}
	for _, d := range goodDesks() {
		for _, a := range []impl.Deed{deed(0, 60, 1), deed(1, 0, 0), deed(4, 0, 0), deed(5, 0, 0)} {
			refused(d, slices.Repeat([]impl.Deed{a}, 41))
			refused(d, slices.Repeat([]impl.Deed{a}, 400))
		}
	}
}

// Promise 61: texts of deeds are read.
func TestPromise61DeedText(t *testing.T) {
	for text, a := range map[string]impl.Deed{"come 6 1": deed(0, 6, 1), "come 0 0": deed(0, 0, 0), "come 99 99": deed(0, 99, 99), "come 0 99": deed(0, 0, 99), "come 10 9": deed(0, 10, 9), "go": deed(1, 0, 0), "need 0": deed(2, 0, 0), "need 99": deed(2, 99, 0), "later 0": deed(3, 0, 0), "later 60": deed(3, 60, 0), "later 99": deed(3, 99, 0), "back": deed(4, 0, 0)} {
		if got := impl.DeedText(a); got != text {
			t.Errorf("DeedText(%v) is %q, not %q", a, got, text)
		}
		if got, ok := impl.ReadDeed(text); !ok || got != a {
			t.Errorf("ReadDeed(%q) is %v, %v, not %v", text, got, ok, a)
		}
	}
	none := 0
	for _, a := range append(allDeeds(), writtenDeeds()...) {
		text := impl.DeedText(a)
		if want := textByWords(a); text != want {
			t.Fatalf("DeedText(%v) is %q, not %q", a, text, want)
		}
		if text == "" {
			none++
			continue
		}
		if got, ok := impl.ReadDeed(text); !ok || got != a {
			t.Fatalf("DeedText(%v) is %q, and ReadDeed of it %v, %v", a, text, got, ok)
		}
	}
	if none < 1000 {
		t.Fatalf("only %d have no text", none)
	}
	for _, a := range []impl.Deed{deed(0, 100, 1), deed(0, 1, 100), deed(0, -1, 1), deed(0, 1, -1), deed(1, 1, 0), deed(1, 0, 1), deed(2, 100, 0), deed(2, -1, 0), deed(2, 0, 1), deed(3, 100, 0), deed(3, -1, 0), deed(3, 1, 1), deed(4, 1, 0), deed(4, 0, 1), deed(5, 0, 0), deed(-1, 0, 0), deed(math.MinInt, 0, 0), deed(math.MaxInt, 0, 0)} {
		if text := impl.DeedText(a); text != "" {
			t.Errorf("DeedText(%v) is %q", a, text)
		}
	}
}

// Promise 62: read texts are canonical.
func TestPromise62ReadDeed(t *testing.T) {
	for _, text := range noTexts() {
		refusedText(t, text)
	}
	read, refused := 0, 0
	for _, text := range lotsOfTexts() {
		if checkRead(t, text) {
			read++
		} else {
			refused++
		}
	}
	for _, a := range writtenDeeds() {
		checkRead(t, textByWords(a))
	}
	if read < 100 || refused < 1000 {
		t.Fatalf("%d are read, %d are not", read, refused)
	}
	for _, word := range []string{"come", "go", "need", "later", "back", ""} {
		for _, one := range []string{"", "0", "9", "10", "99", "100", "01", "-1", " "} {
			for _, two := range []string{"", "0", "9", "10", "99", "100", "01", "-1", " "} {
				checkRead(t, word+" "+one+" "+two)
				checkRead(t, word+" "+one+two)
				checkRead(t, word+one+" "+two)
			}
		}
	}
}

func refusedText(t *testing.T, text string) {
	t.Helper()
	if a, ok := impl.ReadDeed(text); ok || a != (impl.Deed{}) {
		t.Fatalf("ReadDeed(%q) is %v, %v", text, a, ok)
	}
}

func checkRead(t *testing.T, text string) bool {
	t.Helper()
	a, ok := impl.ReadDeed(text)
	if want, wanted := readByWords(text); ok != wanted || a != want {
		t.Fatalf("ReadDeed(%q) is %v, %v, not %v, %v", text, a, ok, want, wanted)
	}
	if !ok {
		return false
	}
	if again := impl.DeedText(a); again != text {
		t.Fatalf("ReadDeed(%q) is %v, and DeedText of it %q", text, a, again)
	}
	refusedText(t, text+" ")
	return true
}

// journals has lists of deeds that all have a text, some of them with more deeds than may be done at once.
func journals() [][]impl.Deed {
	lists := [][]impl.Deed{nil, {}, {deed(0, 0, 0)}, {deed(0, 99, 99)}, {deed(1, 0, 0)}, {deed(2, 0, 0)}, {deed(3, 99, 0)}, {deed(4, 0, 0)}, {deed(0, 6, 1), deed(4, 0, 0)}, slices.Repeat([]impl.Deed{deed(1, 0, 0)}, 40), slices.Repeat([]impl.Deed{deed(0, 10, 10)}, 41), writtenDeeds()[:150]}
	for seed := range uint32(30) {
		lists = append(lists, writtenOf(chanceDeeds(seed, int(seed)*3)))
	}
	return lists
}

// journalCase has what is read of a text.
type journalCase struct {
	text  string
	deeds []impl.Deed
	read  int
}

func journalCases() []journalCase {
	come, back := deed(0, 6, 1), deed(4, 0, 0)
	return []journalCase{
		{"", nil, 0}, {"\n", nil, 0}, {"\n\n", nil, 0}, {" ", nil, 0}, {"go", nil, 0}, {"go\n", []impl.Deed{deed(1, 0, 0)}, 3}, {"\ngo\n", nil, 0}, {" go\n", nil, 0}, {"go \n", nil, 0}, {"go\r\n", nil, 0}, {"Go\n", nil, 0}, {"go\x00\n", nil, 0}, {"\xff\n", nil, 0},
		{"come 6 1\nback\ngo", []impl.Deed{come, back}, 14}, {"come 6 1\nback\ngo\n", []impl.Deed{come, back, deed(1, 0, 0)}, 17}, {"come 6 1\nback\n", []impl.Deed{come, back}, 14}, {"come 6 1\nback", []impl.Deed{come}, 9}, {"come 6 1\nbac", []impl.Deed{come}, 9}, {"come 6 1\n", []impl.Deed{come}, 9}, {"come 6 1", nil, 0}, {"come 6", nil, 0},
		{"come 6 12\n", []impl.Deed{deed(0, 6, 12)}, 10}, {"come 6 123\n", nil, 0}, {"need 1\nneed 12", []impl.Deed{deed(2, 1, 0)}, 7}, {"need 1\nneed 01\nneed 1\n", []impl.Deed{deed(2, 1, 0)}, 7},
		// Behind a line that is none nothing is read.
		{"go\n\ngo\n", []impl.Deed{deed(1, 0, 0)}, 3}, {"go\nmany\ngo\n", []impl.Deed{deed(1, 0, 0)}, 3}, {"go\ngo \ngo\n", []impl.Deed{deed(1, 0, 0)}, 3}, {"go\ngo\r\n", []impl.Deed{deed(1, 0, 0)}, 3}, {"come 6 1\ncome -1 1\nback\n", []impl.Deed{come}, 9}, {"come 6 1\nback 0\n", []impl.Deed{come}, 9}, {"come 6 1\rback\n", nil, 0},
		// What cannot be done is read all the same.
		{"later 0\nneed 99\ncome 0 0\n", []impl.Deed{deed(3, 0, 0), deed(2, 99, 0), deed(0, 0, 0)}, 25},
	}
}

// Promise 63: journals are read.
func TestPromise63JournalText(t *testing.T) {
	for text, deeds := range map[string][]impl.Deed{"": nil, "go\n": {deed(1, 0, 0)}, "come 6 1\nback\n": {deed(0, 6, 1), deed(4, 0, 0)}, "later 0\nneed 99\ncome 0 0\n": {deed(3, 0, 0), deed(2, 99, 0), deed(0, 0, 0)}, strings.Repeat("back\n", 41): slices.Repeat([]impl.Deed{deed(4, 0, 0)}, 41)} {
		if got := impl.JournalText(deeds); got != text {
			t.Errorf("JournalText(%v) is %q, not %q", deeds, got, text)
		}
	}
	for _, deeds := range append(journals(), writtenDeeds()) {
		text := impl.JournalText(deeds)
		if want := journalByWords(deeds); text != want {
			t.Fatalf("JournalText(%v) is %q, not %q", deeds, text, want)
		}
		if got, read := impl.ReadJournal(text); !slices.Equal(got, deeds) || read != len(text) {
			t.Fatalf("JournalText(%v) is %q, and ReadJournal of it %v, %d", deeds, text, got, read)
		}
	}
	for _, deeds := range journals() {
		for _, bad := range []impl.Deed{deed(0, 100, 1), deed(0, 1, -1), deed(1, 1, 0), deed(2, 0, 1), deed(3, 100, 0), deed(4, 0, 1), deed(5, 0, 0), deed(-1, 0, 0)} {
			for _, at := range []int{0, len(deeds) / 2, len(deeds)} {
				if text := impl.JournalText(slices.Insert(slices.Clone(deeds), at, bad)); text != "" {
					t.Fatalf("with %v at %d of %v it is %q", bad, at, deeds, text)
				}
			}
		}
	}
}

// Promise 57: wherever a journal is cut, a desk of before is found.
func TestPromise57ReadJournal(t *testing.T) {
	for _, c := range journalCases() {
		if got, read := impl.ReadJournal(c.text); !slices.Equal(got, c.deeds) || read != c.read {
			t.Errorf("ReadJournal(%q) is %v, %d, not %v, %d", c.text, got, read, c.deeds, c.read)
		}
	}
	for _, deeds := range journals() {
		checkJournal(t, deeds)
	}
	for _, text := range lotsOfTexts() {
		for _, ahead := range []string{"", "go\n", "come 6 1\nback\n"} {
			checkJournalText(t, ahead+text)
			checkJournalText(t, ahead+text+"\n")
			checkJournalText(t, ahead+text+"\nback\n")
		}
	}
}

// checkJournalText reads line by line.
func checkJournalText(t *testing.T, text string) {
	t.Helper()
	var want []impl.Deed
	wanted := 0
	lines := strings.SplitAfter(text, "\n")
	for _, line := range lines[:len(lines)-1] {
		a, ok := readByWords(strings.TrimSuffix(line, "\n"))
		if !ok {
			break
		}
		want = append(want, a)
		wanted += len(line)
	}
	got, read := impl.ReadJournal(text)
	if !slices.Equal(got, want) || read != wanted {
		t.Fatalf("ReadJournal(%q) is %v, %d, not %v, %d", text, got, read, want, wanted)
	}
	if again := impl.JournalText(got); again != text[:read] {
		t.Fatalf("ReadJournal(%q) is %v, %d, and JournalText of them %q", text, got, read, again)
	}
}

// checkJournal cuts the text of deeds everywhere.
func checkJournal(t *testing.T, deeds []impl.Deed) {
	t.Helper()
	text := journalByWords(deeds)
	for cut := range len(text) + 1 {
		got, read := impl.ReadJournal(text[:cut])
		many, whole := strings.Count(text[:cut], "\n"), 1+strings.LastIndex(text[:cut], "\n")
		if !slices.Equal(got, deeds[:many]) || read != whole {
			t.Fatalf("of %q ReadJournal reads %v, %d, not %d deeds and %d", text[:cut], got, read, many, whole)
		}
	}
	for _, junk := range []string{"x", "\n", " ", "go", "come 1 2", "go \n", "many\n", "\xff", "\r\n"} {
		if got, read := impl.ReadJournal(text + junk + "\x00go\n"); !slices.Equal(got, deeds) || read != len(text) {
			t.Fatalf("of %q with %q behind ReadJournal reads %v, %d", text, junk, got, read)
		}
	}
}

// Promise 57, the last part: said line by line deeds lead to the desk to which DeskRun leads.
func TestPromise57SaidLineByLine(t *testing.T) {
	for _, d := range goodDesks() {
		for _, deeds := range journals() {
			checkSaidJournal(t, d, deeds[:min(len(deeds), 40)])
		}
	}
}

func checkSaidJournal(t *testing.T, d impl.Desk, deeds []impl.Deed) {
	t.Helper()
	lines := strings.Split(strings.TrimSuffix(journalByWords(deeds), "\n"), "\n")
	if len(deeds) == 0 {
		lines = nil
	}
	run, many := impl.DeskRun(d, deeds)
	said, answers := impl.DeskSay(d, lines)
	done := 0
	for _, answer := range answers {
		if answer == "ok" {
			done++
		} else if answer != "not" {
			t.Fatalf("said to %v, %q are answered by %q", d, lines, answers)
		}
	}
	if !sameDesk(run, said) || done != many || len(answers) != len(deeds) {
		t.Fatalf("DeskRun(%v, %v) is %v, %d, and DeskSay %v, %q", d, deeds, run, many, said, answers)
	}
}

// linesCase has for customers lines and their answers, from the first one on.
type linesCase struct {
	all   []impl.Customer
	lines []string // a line, and its answer
}

func linesCases() []linesCase {
	idle := strings.Repeat(".,", 60)
	return []linesCase{
		{nil, []string{"many", "0", "waits", "none", "leaves", "none", "last", "none", "rounds", "none", "busy", "none", "need", "0", "least", "0", "idle", "0", "work 0", "0", "work 200", "0", "work 201", "none", "order 0", "none", "order 3", "none", "order 4", "none", "sum 0", "0", "sum 3", "0", "sum 4", "none", "sum 999999", "none", "beside 0", "none", "beside 1", "0", "beside 4", "0", "beside 5", "none", "go", "not", "need 0", "not", "later 1", "not", "back", "not", "come 0 0", "not", "come 61 1", "not", "come 60 10", "not", "come 60 9", "ok", "many", "1", "back", "ok", "many", "0"}},
		{list(0, 1), []string{"many", "1", "waits", "0", "leaves", "1", "last", "1", "rounds", "0", "busy", "0,1", "need", "1", "least", "1", "idle", "0", "work 0", "1", "work 1", "0", "order 0", "0", "order 3", "0", "sum 3", "1", "beside 4", "0", "go", "ok", "go", "not", "back", "ok", "back", "not", "later 0", "not", "later 60", "ok", "later 1", "not", "waits", "0", "leaves", "61", "idle", "60", "order 1", idle + "0", "rounds", idle + "0"}},
		{same(8, 60, 9), []string{"many", "8", "waits", "0,9,18,27,36,45,54,63", "leaves", "69,78,87,96,105,114,123,132", "last", "72,63,54,45,36,27,18,9", "busy", "60,132", "need", "72", "least", "324", "idle", "60", "work 59", "0", "work 60", "72", "work 131", "1", "work 132", "0", "work 999999", "none", "sum 0", "324", "sum 1", "324", "sum 2", "324", "sum 3", "548", "beside 1", "252", "beside 2", "108", "beside 3", "63", "beside 4", "36", "come 60 1", "not", "need 7", "not", "need 8", "not", "later 1", "not", "go", "ok", "come 60 8", "ok", "need 7", "ok", "need 7", "not"}},
		{list(0, 4, 1, 2, 9, 1), []string{"waits", "0,3,0", "leaves", "4,6,10", "last", "6,2,1", "busy", "0,6,9,10", "need", "7", "least", "9", "idle", "3", "work 1", "5", "order 0", "0,0,0,0,1,1,.,.,.,2", "order 1", "0,1,1,0,0,0,.,.,.,2", "order 2", "0,1,1,0,0,0,.,.,.,2", "order 3", "0,0,0,1,0,1,.,.,.,2", "sum 0", "10", "sum 1", "9", "sum 3", "11", "rounds", "0,0,1,0,1,0,.,.,.,2", "beside 1", "3", "beside 2", "0"}},
		{list(0, 1), slices.Repeat([]string{"need 0", "ok", "back", "ok"}, 20)}, {list(0, 1), append(slices.Repeat([]string{"need 0", "ok"}, 8), "need 0", "not", "need", "9", "later 1", "ok", "back", "ok", "back", "ok", "back", "ok", "back", "ok", "back", "ok", "back", "ok", "back", "ok", "back", "ok", "need", "2", "back", "not", "need", "2")},
	}
}

// Promise 58: whatever is said, the least is the sum by the rule 2.
func TestPromise58DeskSay(t *testing.T) {
	for _, c := range linesCases() {
		var lines, wanted []string
		for i, text := range c.lines {
			if i%2 == 0 {
				lines = append(lines, text)
			} else {
				wanted = append(wanted, text)
			}
		}
		if _, answers := impl.DeskSay(desk(c.all), lines); !slices.Equal(answers, wanted) {
			t.Errorf("said to %v, %q are answered by %q, not %q", c.all, lines, answers, wanted)
		}
	}
	for _, d := range goodDesks() {
		for _, lines := range [][]string{nil, {}, {""}, {"many"}, {"back", "back", "least"}, slices.Repeat([]string{"back"}, 40), slices.Repeat([]string{""}, 40), slices.Repeat([]string{"come 60 1"}, 40)} {
			checkSaid(t, d, lines)
		}
		for seed := range uint32(5) {
			checkSaid(t, d, chanceLines(seed, 10*int(seed)))
		}
	}
	for seed := range uint32(100) {
		checkSaid(t, desk(nil), chanceLines(seed, 40))
	}
}

func checkSaid(t *testing.T, d impl.Desk, lines []string) {
	t.Helper()
	got, answers := impl.DeskSay(d, lines)
	if want, wanted := saidByWords(d, lines); !sameDesk(got, want) || !slices.Equal(answers, wanted) {
		t.Fatalf("DeskSay(%v, %q) is %v, %q, not %v, %q", d, lines, got, answers, want, wanted)
	}
	if !impl.DeskOk(got) || slices.Contains(answers, "") {
		t.Fatalf("DeskSay(%v, %q) is %v, %q", d, lines, got, answers)
	}
	for cut := 0; cut <= len(lines); cut += 3 {
		middle, first := impl.DeskSay(d, lines[:cut])
		if after, second := impl.DeskSay(middle, lines[cut:]); !sameDesk(after, got) || !slices.Equal(append(first, second...), answers) {
			t.Fatalf("DeskSay(%v, %q) is %v, %q, and in two parts, from %d on, %v, %q and %q", d, lines, got, answers, cut, after, first, second)
		}
	}
	if after, both := impl.DeskSay(got, []string{"least", "sum 2"}); len(both) != 2 || both[0] != both[1] || !sameDesk(after, got) {
		t.Fatalf("behind %q least and sum 2 are answered by %q", lines, both)
	}
}

func TestPromise58DeskSayOfOthers(t *testing.T) {
	refused := func(d impl.Desk, lines []string) {
		t.Helper()
		if got, answers := impl.DeskSay(d, lines); len(answers) != 0 || !nothing(got) {
			t.Fatalf("DeskSay(%v, %q) is %v, %q", d, lines, got, answers)
		}
	}
	for _, d := range append(badDesks(), someBadDesks()...) {
		for _, lines := range [][]string{nil, {}, {""}, {"many"}, {"back"}, {"go", "go"}, slices.Repeat([]string{"need"}, 40), slices.Repeat([]string{"need"}, 41)} {
			refused(d, lines)
		}
	}
	for _, d := range goodDesks() {
		for _, line := range []string{"", "many", "back", "come 60 1"} {
			refused(d, slices.Repeat([]string{line}, 41))
			refused(d, slices.Repeat([]string{line}, 400))
		}
	}
}

// Promise 64: questions change nothing.
func TestPromise64DeskLine(t *testing.T) {
	lines := slices.Concat(questionLines(), unknownLines(), noTexts(), []string{"come 60 1", "come 60 9", "come 0 0", "come 99 99", "go", "need 0", "need 7", "need 99", "later 0", "later 1", "later 60", "later 99", "back"})
	for _, d := range goodDesks() {
		for _, line := range lines {
			checkLine(t, d, line)
		}
	}
	few := []impl.Desk{desk(nil), desk(list(0, 3, 1, 1), list(7, 7)), desk(same(8, 60, 9), pastOf(8)...)}
	for _, d := range few {
		for _, line := range lotsOfTexts() {
			checkLine(t, d, line)
		}
		for number := range 1100 {
			for _, word := range []string{"work ", "order ", "sum ", "beside ", "need ", "later "} {
				checkLine(t, d, word+fmt.Sprint(number))
			}
		}
	}
	for _, line := range unknownLines() {
		if after, answer := impl.DeskLine(few[1], line); answer != "what" || !sameDesk(after, few[1]) {
			t.Fatalf("DeskLine(%v, %q) is %v, %q", few[1], line, after, answer)
		}
	}
	for _, d := range append(badDesks(), someBadDesks()...) {
		for _, line := range []string{"", "many", "need", "work 1", "go", "back", "come 60 1", "come 0 1", "what"} {
			if after, answer := impl.DeskLine(d, line); answer != "" || !nothing(after) {
				t.Fatalf("DeskLine(%v, %q) is %v, %q", d, line, after, answer)
			}
		}
	}
}

func checkLine(t *testing.T, d impl.Desk, line string) {
	t.Helper()
	after, answer := impl.DeskLine(d, line)
	if want, wanted := lineByWords(d, line); answer != wanted || !sameDesk(after, want) {
		t.Fatalf("DeskLine(%v, %q) is %v, %q, not %v, %q", d, line, after, answer, want, wanted)
	}
	if !impl.DeskOk(after) || answer != "ok" && !sameDesk(after, d) || line == "" && answer != "what" {
		t.Fatalf("DeskLine(%v, %q) is %v, %q", d, line, after, answer)
	}
}

// The section "Examples" of the document, line by line.
func TestExamples(t *testing.T) {
	examples := [][2]string{{"waits", "0,2"}, {"leaves", "3,4"}, {"come 6 1", "ok"}, {"busy", "0,4,6,7"}, {"work 1", "3"}, {"order 2", "0,1,0,0,.,.,2"}, {"sum 0", "7"}, {"least", "6"}, {"last", "4,1,1"}, {"rounds", "0,0,1,0,.,.,2"}, {"idle", "2"}, {"need 0", "ok"}, {"waits", "0,3,0"}, {"back", "ok"}}
	d, ok := impl.DeskNew(list(0, 3, 1, 1))
	if !ok {
		t.Fatal("no desk")
	}
	var lines, answers []string
	now := d
	for _, example := range examples {
		after, answer := impl.DeskLine(now, example[0])
		if answer != example[1] {
			t.Errorf("%s is answered by %s, not %s", example[0], answer, example[1])
		}
		now, lines, answers = after, append(lines, example[0]), append(answers, example[1])
	}
	if said, all := impl.DeskSay(d, lines); !slices.Equal(all, answers) || !sameDesk(said, now) {
		t.Errorf("all lines lead to %v, %q", said, all)
	}
	if !sameDesk(now, desk(list(0, 3, 1, 1, 6, 1), list(0, 3, 1, 1))) {
		t.Errorf("the desk is %v", now)
	}
}

// someRuns has deeds of each kind, done and not done, by which a desk is changed.
func someRuns() [][]impl.Deed {
	runs := [][]impl.Deed{nil, {deed(5, 0, 0)}, {deed(0, 60, 1)}, {deed(0, 60, 0)}, {deed(1, 0, 0)}, {deed(2, 0, 0)}, {deed(2, 8, 0)}, {deed(3, 1, 0)}, {deed(3, 0, 0)}, {deed(4, 0, 0)}, {deed(4, 0, 0), deed(4, 0, 0)}, {deed(4, 0, 0), deed(0, 60, 1)}, {deed(1, 0, 0), deed(1, 0, 0), deed(4, 0, 0)}}
	return append(runs, chanceDeeds(1, 10), chanceDeeds(2, 40), chanceDeeds(3, 41))
}

// A general rule: arguments are never written to, whether they are desks, deeds and lines or not.
func TestDesksArgumentsAreNotWrittenTo(t *testing.T) {
	for _, all := range append(goodLists(), badLists()...) {
		untouched(t, all, func(part []impl.Customer) {
			d, _ := impl.DeskNew(part)
			scribbledDesk(d)
		})
	}
	for _, d := range slices.Concat(goodDesks(), someBadDesks()) {
		for _, deeds := range someRuns() {
			deskUntouched(t, d, func(d impl.Desk) {
				rowUntouched(t, deeds, []impl.Deed{deed(1, 0, 0), deed(0, 60, 9)}, func(part []impl.Deed) { doneWith(d, part) })
			})
		}
		for seed := range uint32(4) {
			deskUntouched(t, d, func(d impl.Desk) {
				rowUntouched(t, chanceLines(seed, 11*int(seed)), []string{"go", "back"}, func(part []string) { saidWith(d, part) })
			})
		}
	}
	for _, deeds := range journals() {
		rowUntouched(t, deeds, []impl.Deed{deed(1, 0, 0)}, func(part []impl.Deed) { impl.JournalText(part) })
	}
}

// doneWith writes to all results of doing deeds.
func doneWith(d impl.Desk, deeds []impl.Deed) {
	impl.DeskOk(d)
	run, _ := impl.DeskRun(d, deeds)
	scribbledDesk(run)
	for _, a := range deeds {
		after, _ := impl.DeskDo(d, a)
		scribbledDesk(after)
	}
}

// saidWith writes to all results of saying lines.
func saidWith(d impl.Desk, lines []string) {
	said, answers := impl.DeskSay(d, lines)
	scribbledDesk(said)
	scribbled(answers, "x")
	for _, line := range lines {
		after, _ := impl.DeskLine(d, line)
		scribbledDesk(after)
	}
}

// A general rule: no two lists of one result share memory, even if those of the argument do.
func TestDesksListsAreApart(t *testing.T) {
	one := append(list(0, 3, 1, 1), list(2, 2, 3, 3)...)
	alike := []impl.Desk{desk(one, one, one), desk(one[:2], one[:3], one, one[:2], one, one, one, one, one[:1]), desk(nil, one, one[:1], one[1:])}
	for _, d := range append(goodDesks(), alike...) {
		apart(t, func() impl.Desk {
			made, _ := impl.DeskNew(d.Now)
			return made
		})
		for _, deeds := range someRuns() {
			apart(t, func() impl.Desk {
				run, _ := impl.DeskRun(d, deeds)
				return run
			})
			if len(deeds) == 0 {
				continue
			}
			apart(t, func() impl.Desk {
				after, _ := impl.DeskDo(d, deeds[0])
				return after
			})
			line := textByWords(deeds[0])
			apart(t, func() impl.Desk {
				after, _ := impl.DeskLine(d, line)
				return after
			})
			apart(t, func() impl.Desk {
				said, _ := impl.DeskSay(d, []string{line, "back", "many", "go"})
				return said
			})
		}
	}
}

// A general rule: results share no memory with an argument that is written to later.
func TestDesksResultsAreNew(t *testing.T) {
	fresh := func() impl.Desk { return desk(list(0, 3, 1, 1), list(0, 3), list(7, 7)) }
	for _, a := range []impl.Deed{deed(0, 6, 1), deed(0, 0, 1), deed(1, 0, 0), deed(2, 1, 0), deed(2, 2, 0), deed(3, 1, 0), deed(3, 0, 0), deed(4, 0, 0), deed(5, 0, 0)} {
		want, _ := doneByWords(fresh(), a)
		d := fresh()
		after, _ := impl.DeskDo(d, a)
		run, _ := impl.DeskRun(d, []impl.Deed{a})
		none, _ := impl.DeskRun(d, nil)
		line, _ := impl.DeskLine(d, textByWords(a))
		said, _ := impl.DeskSay(d, []string{"many", textByWords(a)})
		empty, _ := impl.DeskSay(d, nil)
		scribbledDesk(d)
		for i, got := range []impl.Desk{after, run, line, said} {
			if !sameDesk(got, want) {
				t.Errorf("%d: the desk after %v became %v when the argument was written to", i, a, got)
			}
		}
		if !sameDesk(none, fresh()) || !sameDesk(empty, fresh()) {
			t.Errorf("desks after nothing became %v and %v", none, empty)
		}
	}
	all := list(0, 3, 1, 1)
	made, _ := impl.DeskNew(all)
	scribbled(all, impl.Customer{Come: -7})
	if !sameDesk(made, desk(list(0, 3, 1, 1))) {
		t.Errorf("a new desk became %v", made)
	}
	deeds, _ := impl.ReadJournal("go\nback\n")
	scribbled(deeds, deed(7, 7, 7))
	if again, _ := impl.ReadJournal("go\nback\n"); !slices.Equal(again, []impl.Deed{deed(1, 0, 0), deed(4, 0, 0)}) {
		t.Errorf("read again they are %v", again)
	}
}

// A general rule: no call leaves anything for the next one.
func TestDesksSameAgain(t *testing.T) {
	lines := slices.Concat(questionLines()[:30], []string{"come 60 1", "later 1", "need 0", "back", "go", ""})
	sameForAll(t, append(goodDesks(), someBadDesks()...), func(d impl.Desk) []int {
		said, answers := impl.DeskSay(d, lines)
		run, many := impl.DeskRun(d, chanceDeeds(5, 20))
		numbers := []int{len(said.Past), len(run.Past), many}
		for _, c := range slices.Concat(said.Now, run.Now) {
			numbers = append(numbers, c.Come, c.Need)
		}
		for _, b := range []byte(strings.Join(answers, " ")) {
			numbers = append(numbers, int(b))
		}
		return numbers
	})
	sameForAll(t, lotsOfTexts(), func(text string) []int {
		a, _ := impl.ReadDeed(text)
		deeds, read := impl.ReadJournal(text + "\n")
		return []int{a.Kind, a.A, a.B, len(deeds), read, len(impl.DeedText(a)), len(impl.JournalText(deeds))}
	})
}
