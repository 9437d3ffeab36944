package tests

import (
	"fmt"
	"math"
	"regexp"
	"slices"
	"strconv"
	"strings"
	"testing"

	"loop.example/onecounter/impl"
)

// desk makes one of customers and those of before, the last ones last.
func desk(now []impl.Customer, past ...[]impl.Customer) impl.Desk {
	return impl.Desk{Now: now, Past: past}
}

func sameDesk(a, b impl.Desk) bool {
	return slices.Equal(a.Now, b.Now) && slices.EqualFunc(a.Past, b.Past, slices.Equal)
}

func nothing(d impl.Desk) bool {
	return len(d.Now) == 0 && len(d.Past) == 0
}

// deskByWords tells desks by the words of the document.
func deskByWords(d impl.Desk) bool {
	return goodByRule(d.Now) && len(d.Past) <= 8 && !slices.ContainsFunc(d.Past, func(all []impl.Customer) bool { return !goodByRule(all) })
}

// pastOf has so many lists of before, of which no two neighbours are alike.
func pastOf(many int) [][]impl.Customer {
	var past [][]impl.Customer
	for i := range many {
		past = append(past, same(i%9, 6*i, 1+i%9))
	}
	return past
}

// goodDesks has desks with each number of lists of before.
func goodDesks() []impl.Desk {
	desks := []impl.Desk{{}, desk([]impl.Customer{}), {Past: [][]impl.Customer{}}, desk(nil, nil), desk(nil, list(60, 9)), desk(list(0, 1), nil), desk(same(8, 0, 1), same(8, 60, 9)), desk(same(8, 60, 9)), desk(same(7, 60, 9)), desk(list(0, 3, 1, 1))}
	for i, all := range someLists() {
		desks = append(desks, desk(all, pastOf(i%9)...))
	}
	for many := range 9 {
		desks = append(desks, desk(nil, pastOf(many)...), desk(list(0, 1), pastOf(many)...), desk(list(7, 8, 59, 9), pastOf(many)...), desk(same(8, 5, 3), pastOf(many)...))
	}
	return desks
}

// badDesks has desks that are none for one reason each.
func badDesks() []impl.Desk {
	desks := []impl.Desk{desk(nil, make([][]impl.Customer, 9)...), desk(list(0, 1), pastOf(9)...), desk(nil, pastOf(10)...), desk(same(9, 0, 1)), desk(nil, same(9, 0, 1))}
	for _, all := range badLists() {
		desks = append(desks, desk(all), desk(all, pastOf(8)...), desk(list(0, 1), all), desk(nil, pastOf(3)[2], all))
	}
	for at := range 8 {
		for _, bad := range othersOfEachKind() {
			past := pastOf(8)
			past[at] = bad
			desks = append(desks, desk(list(3, 3), past...))
		}
	}
	return desks
}

// someBadDesks has one desk that is none of each kind.
func someBadDesks() []impl.Desk {
	return []impl.Desk{desk(nil, make([][]impl.Customer, 9)...), desk(list(0, 1), pastOf(9)...), desk(same(9, 0, 1)), desk(list(-1, 1)), desk(list(0, 10)), desk(list(2, 1, 1, 1)), desk(list(0, 1), list(0, 0)), desk(nil, nil, nil, list(61, 1)), desk(list(0, 1), append(pastOf(7), list(1, 1, 0, 1))...)}
}

func deed(kind, a, b int) impl.Deed {
	return impl.Deed{Kind: kind, A: a, B: b}
}

// allDeeds has deeds of each kind, and of other kinds, with numbers at, inside and past all bounds.
func allDeeds() []impl.Deed {
	var deeds []impl.Deed
	for _, kind := range []int{math.MinInt, -1, 0, 1, 2, 3, 4, 5, 6, math.MaxInt} {
		for _, a := range []int{math.MinInt, -60, -1, 0, 1, 2, 7, 8, 9, 10, 53, 59, 60, 61, 99, 100, 101, math.MaxInt} {
			for _, b := range []int{math.MinInt, -1, 0, 1, 5, 9, 10, 99, 100, math.MaxInt} {
				deeds = append(deeds, deed(kind, a, b))
			}
		}
	}
	return deeds
}

// chanceDeeds has so many deeds, told by a fixed rule, of which most can be done: who comes further behind comes later.
func chanceDeeds(seed uint32, many int) []impl.Deed {
	next := numbersFrom(seed)
	var deeds []impl.Deed
	for i := range many {
		switch next(10) {
		case 0, 1, 2, 3:
			deeds = append(deeds, deed(impl.DkCome, min(60, i)+next(4), next(11)))
		case 4:
			deeds = append(deeds, deed(impl.DkGo, 0, 0))
		case 5, 6:
			deeds = append(deeds, deed(impl.DkNeed, next(6), 0))
		case 7:
			deeds = append(deeds, deed(impl.DkLater, next(4), 0))
		case 8:
			deeds = append(deeds, deed(impl.DkBack, 0, 0))
		default:
			deeds = append(deeds, deed(next(5), next(3), next(2)))
		}
	}
	return deeds
}

// changedByWords tells the customers after one of the first four kinds of deeds, whether they are customers or not.
func changedByWords(now []impl.Customer, a impl.Deed) ([]impl.Customer, bool) {
	now = slices.Clone(now)
	switch {
	case a.Kind == 0:
		return append(now, impl.Customer{Come: a.A, Need: a.B}), true
	case a.B != 0 || len(now) == 0:
		return nil, false
	case a.Kind == 1 && a.A == 0:
		return now[:len(now)-1], true
	case a.Kind == 2 && a.A >= 0 && a.A < len(now):
		now[a.A].Need++
		return now, true
	case a.Kind == 3 && a.A > 0 && a.A <= 60:
		for at := range now {
			now[at].Come += a.A
		}
		return now, true
	}
	return nil, false
}

// doneByWords tells a desk after a deed by the words of the document.
func doneByWords(d impl.Desk, a impl.Deed) (impl.Desk, bool) {
	if !deskByWords(d) {
		return impl.Desk{}, false
	}
	if many := len(d.Past); a == deed(4, 0, 0) && many > 0 {
		return desk(d.Past[many-1], d.Past[:many-1]...), true
	}
	now, told := changedByWords(d.Now, a)
	if !told || !goodByRule(now) {
		return d, false
	}
	past := append(slices.Clone(d.Past), d.Now)
	if len(past) == 9 {
		past = past[1:]
	}
	return desk(now, past...), true
}

// ranByWords does one deed after the other.
func ranByWords(d impl.Desk, deeds []impl.Deed) (impl.Desk, int) {
	many := 0
	for _, a := range deeds {
		after, done := doneByWords(d, a)
		if done {
			many++
		}
		d = after
	}
	return d, many
}

// textByWords has the text of a deed, or "" if there is none.
func textByWords(a impl.Deed) string {
	two := a.A >= 0 && a.A <= 99 && a.B >= 0 && a.B <= 99
	switch {
	case a.Kind == 0 && two:
		return fmt.Sprintf("come %d %d", a.A, a.B)
	case a.Kind == 1 && a.A == 0 && a.B == 0:
		return "go"
	case a.Kind == 2 && two && a.B == 0:
		return fmt.Sprintf("need %d", a.A)
	case a.Kind == 3 && two && a.B == 0:
		return fmt.Sprintf("later %d", a.A)
	case a.Kind == 4 && a.A == 0 && a.B == 0:
		return "back"
	}
	return ""
}

// writtenDeeds has all deeds that have a text.
func writtenDeeds() []impl.Deed {
	deeds := []impl.Deed{{Kind: impl.DkGo}, {Kind: impl.DkBack}}
	for a := range 100 {
		deeds = append(deeds, deed(impl.DkNeed, a, 0), deed(impl.DkLater, a, 0))
		for b := range 100 {
			deeds = append(deeds, deed(impl.DkCome, a, b))
		}
	}
	return deeds
}

var (
	textOfDeed = regexp.MustCompile(`\A(come|go|need|later|back)(?: (0|[1-9][0-9]?))?(?: (0|[1-9][0-9]?))?\z`)
	asksNumber = regexp.MustCompile(`\A(work|order|sum|beside) (0|[1-9][0-9]{0,5})\z`)
)

// readByWords reads by a pattern, and takes only as many numbers as belong to the word.
func readByWords(s string) (impl.Deed, bool) {
	parts := textOfDeed.FindStringSubmatch(s)
	if parts == nil {
		return impl.Deed{}, false
	}
	kind := slices.Index([]string{"come", "go", "need", "later", "back"}, parts[1])
	if many := []int{2, 0, 1, 1, 0}[kind]; (parts[2] != "") != (many > 0) || (parts[3] != "") != (many > 1) {
		return impl.Deed{}, false
	}
	a, _ := strconv.Atoi("0" + parts[2])
	b, _ := strconv.Atoi("0" + parts[3])
	return deed(kind, a, b), true
}

// journalByWords has the text of deeds that all have one.
func journalByWords(deeds []impl.Deed) string {
	text := ""
	for _, a := range deeds {
		text += textByWords(a) + "\n"
	}
	return text
}

// writtenOf has those of some deeds that have a text.
func writtenOf(deeds []impl.Deed) []impl.Deed {
	return slices.DeleteFunc(slices.Clone(deeds), func(a impl.Deed) bool { return textByWords(a) == "" })
}

// noTexts has texts that are no deeds.
func noTexts() []string {
	return []string{
		"", " ", "\n", "0", "come", "come ", "come 1", "come 1 ", "come 1 2 ", "come 1 2 3", "come  1 2", "come 1  2", " come 1 2", "come1 2", "come 12 ", "come 1,2", "come\t1 2", "come 1\t2", "come 1 2\n", "come 1 2\r", "\ncome 1 2", "come 1 2\x00", "\x00come 1 2", "come 1\n2",
		"come 01 2", "come 1 02", "come 00 0", "come 0 00", "come -1 2", "come 1 -2", "come -0 0", "come 0 -0", "come +1 2", "come 1 +2", "come 100 1", "come 1 100", "come 99 100", "come 1000000 1", "come 1 1000000", "come 1234567 1", "come 9223372036854775808 1", "come 1 99999999999999999999", "come 1. 2", "come 1.0 2", "come 1e1 2", "come 0x1 2", "come 1_0 2", "come a 2", "come 1 b", "come  ", "come . 1", "come \u0661 1", "come \u00b2 1",
		"Come 1 2", "COME 1 2", "cOme 1 2", "com 1 2", "comes 1 2", "come\xff 1 2", "come 1 \xff", "\xffcome 1 2", "come\u00a01 2", "come 1 2\u00a0",
		"go ", " go", "go 0", "go 1", "go 0 0", "Go", "GO", "g", "goo", "go\n", "go\r", "go\r\n", "go\x00", "go,go", "gogo", "go go",
		"back ", " back", "back 0", "back 1", "back 0 0", "Back", "BACK", "bac", "backs", "back\n", "back\r", "back back",
		"need", "need ", "need  1", " need 1", "need 1 ", "need 1 0", "need 0 0", "need 1 1", "need 01", "need 00", "need -1", "need -0", "need +1", "need 100", "need 101", "need 999999", "need 1000000", "need1", "need\t1", "need 1\n", "need 1\r", "Need 1", "need x", "need 1x", "need \xc3",
		"later", "later ", "later  1", " later 1", "later 1 ", "later 1 0", "later 0 0", "later 01", "later -1", "later +1", "later 100", "later 1000000", "later1", "later 1\n", "later 1\r", "Later 1", "late 1", "laters 1", "later later",
		"0 1", "1", "come 1 2go", "come 1 2 go", "come 1 2\nback", "deed 1", "do", "undo", "\x80", "\xff\xfe", "\u00e9", strings.Repeat("go", 999), strings.Repeat(" ", 999), "come 1 " + strings.Repeat("0", 999), "need " + strings.Repeat("9", 999),
	}
}

// changedText has a text with each change of one byte.
func changedText(text string) []string {
	texts := []string{text + " ", " " + text, text + "\n", text + "\r", text + text}
	for at := range len(text) + 1 {
		if at < len(text) {
			texts = append(texts, text[:at], text[at:], text[:at]+text[at+1:], text[:at]+strings.ToUpper(text[at:at+1])+text[at+1:])
		}
		for _, put := range []string{" ", "0", "1", "9", "-", "+", ".", "a", "e", "o", "\n", "\r", "\x00", "\xff", "\u00a0"} {
			texts = append(texts, text[:at]+put+text[at:])
			if at < len(text) {
				texts = append(texts, text[:at]+put+text[at+1:])
			}
		}
	}
	return texts
}

// lotsOfTexts has texts of deeds, with changes by which some are still ones, and texts that are none.
func lotsOfTexts() []string {
	texts := noTexts()
	for _, text := range []string{"come 0 0", "come 6 1", "come 60 9", "come 99 99", "come 1 10", "go", "need 0", "need 7", "need 99", "later 1", "later 60", "back"} {
		texts = append(append(texts, text), changedText(text)...)
	}
	return texts
}

// dotted writes numbers with commas between them, a dot for each -1, and none for no numbers.
func dotted(numbers []int) string {
	text := ""
	for i, number := range numbers {
		if i > 0 {
			text += ","
		}
		if number == -1 {
			text += "."
		} else {
			text += fmt.Sprint(number)
		}
	}
	if text == "" {
		return "none"
	}
	return text
}

// toldOr writes a number, and none for -1.
func toldOr(number int) string {
	if number < 0 {
		return "none"
	}
	return fmt.Sprint(number)
}

// askedByWords answers a line that is no deed by the functions of the other chapters.
func askedByWords(all []impl.Customer, line string) string {
	switch line {
	case "many":
		return fmt.Sprint(len(all))
	case "waits":
		return dotted(impl.WaitsOf(all))
	case "leaves":
		return dotted(impl.LeavesOf(all))
	case "last":
		return dotted(impl.LastTimes(all))
	case "rounds":
		return dotted(impl.RoundOrder(all))
	case "busy":
		var units []int
		for _, row := range impl.BusyOf(all) {
			units = append(units, row[0], row[1])
		}
		return dotted(units)
	case "need":
		return fmt.Sprint(impl.NeedOf(all))
	case "least":
		return fmt.Sprint(impl.LeastSum(all))
	case "idle":
		return fmt.Sprint(impl.IdleUntil(all))
	}
	parts := asksNumber.FindStringSubmatch(line)
	if parts == nil {
		return "what"
	}
	number, _ := strconv.Atoi(parts[2])
	return askedWithNumber(all, parts[1], number)
}

func askedWithNumber(all []impl.Customer, word string, number int) string {
	switch {
	case word == "work":
		return toldOr(impl.WorkAt(all, number))
	case word == "beside":
		return toldOr(impl.WaitSum(all, number))
	case number > 3:
		return "none"
	case word == "order":
		return dotted(impl.OrderBy(all, number))
	}
	return toldOr(impl.SumOf(all, impl.OrderBy(all, number)))
}

// lineByWords tells a desk after a line, and the answer.
func lineByWords(d impl.Desk, line string) (impl.Desk, string) {
	a, ok := readByWords(line)
	if !ok {
		return d, askedByWords(d.Now, line)
	}
	after, done := doneByWords(d, a)
	if done {
		return after, "ok"
	}
	return after, "not"
}

// saidByWords says one line after the other.
func saidByWords(d impl.Desk, lines []string) (impl.Desk, []string) {
	var answers []string
	for _, line := range lines {
		after, answer := lineByWords(d, line)
		d = after
		answers = append(answers, answer)
	}
	return d, answers
}

// questionLines has each question, with numbers at, inside and past all bounds.
func questionLines() []string {
	lines := []string{"many", "waits", "leaves", "last", "rounds", "busy", "need", "least", "idle"}
	for _, word := range []string{"work ", "order ", "sum ", "beside "} {
		for _, number := range []int{0, 1, 2, 3, 4, 5, 7, 9, 10, 60, 61, 68, 99, 100, 199, 200, 201, 1000, 99999, 100000, 999999} {
			lines = append(lines, word+fmt.Sprint(number))
		}
	}
	return lines
}

// unknownLines has lines that are no deeds, and no questions.
func unknownLines() []string {
	lines := []string{"", " ", "what", "ok", "none", "not", "area", "spread", "times", "idle 1", "many 0", "waits 1", "need 100", "need 123456", "least 2", "rounds 0", "busy 1", "leaves 0", "last 0", "works 1", "work,1", "order1", "0", "1", "\xff", "\u00e9", "many\xff", "wait", "leave", "manymany", "many many", "go 0", "come 1", "later", "back 1", "come 100 1", "later 100", strings.Repeat("many", 99)}
	for _, word := range []string{"many", "waits", "leaves", "last", "rounds", "busy", "need", "least", "idle", "work 1", "order 2", "sum 0", "beside 3"} {
		lines = append(lines, word+" ", " "+word, word+"\n", word+"\r", word+"\r\n", "\n"+word, word+"\x00", word+".", word+"-", word[:len(word)-1], strings.ToUpper(word), strings.ToUpper(word[:1])+word[1:])
	}
	for _, word := range []string{"work", "order", "sum", "beside"} {
		lines = append(lines, word, word+"  1", word+"\t1", word+" 1 ", word+" 1 1", word+" 01", word+" 00", word+" 000001", word+" 0000000", word+" -1", word+" -0", word+" +1", word+" 1000000", word+" 9999999", word+" 1234567", word+" 99999999999999999999", word+" 1.0", word+" 1e1", word+" 0x1", word+" 1_0", word+" a", word+" 1a", word+" a1", word+" \xff", word+" \u0661", word+",1", word+" .", word+" "+strings.Repeat("1", 999))
	}
	return lines
}

// chanceLines has so many lines of all kinds, told by a fixed rule.
func chanceLines(seed uint32, many int) []string {
	next := numbersFrom(seed)
	asked, unknown := questionLines(), unknownLines()
	var lines []string
	for _, a := range chanceDeeds(seed+1, many) {
		switch text := textByWords(a); {
		case text != "" && next(5) > 1:
			lines = append(lines, text)
		case next(4) > 0:
			lines = append(lines, asked[next(len(asked))])
		default:
			lines = append(lines, unknown[next(len(unknown))])
		}
	}
	return lines
}

// listsOf has all lists of a desk.
func listsOf(d impl.Desk) [][]impl.Customer {
	return append(slices.Clone(d.Past), d.Now)
}

// scribbledDesk writes to all the memory of a desk, with its spare capacity.
func scribbledDesk(d impl.Desk) {
	for _, all := range append(slices.Clone(d.Past[:cap(d.Past)]), d.Now) {
		scribbled(all, impl.Customer{Come: -7, Need: -7})
	}
	scribbled(d.Past, list(-7, -7))
}

// apart reports it if two lists of a desk share memory, with spare capacity, or if the spare capacity of the lists of before does with one of them.
func apart(t *testing.T, make func() impl.Desk) {
	t.Helper()
	wanted := listsOf(make())
	for i := range wanted {
		lists := listsOf(make())
		scribbled(append(lists[i], impl.Customer{Come: -7}), impl.Customer{Come: -7})
		scribbled(lists[i], impl.Customer{Come: -7})
		for k, all := range lists {
			if k != i && !slices.Equal(all, wanted[k]) {
				t.Fatalf("the list %d became %v when %d was written to", k, all, i)
			}
		}
	}
	d := make()
	for _, all := range d.Past[len(d.Past):cap(d.Past)] {
		scribbled(all, impl.Customer{Come: -7})
	}
	if !slices.EqualFunc(listsOf(d), wanted, slices.Equal) {
		t.Fatalf("a desk became %v when what is behind the lists of before was written to", d)
	}
}

// deskUntouched calls with a desk of which each list is a part of a longer one, and reports it if any of them is written to.
func deskUntouched(t *testing.T, d impl.Desk, call func(d impl.Desk)) {
	t.Helper()
	longer := func(all []impl.Customer) []impl.Customer {
		return append(slices.Clone(all), list(11, 1, 60, 9, 60, 3)...)
	}
	var lists [][]impl.Customer
	for _, all := range append(listsOf(d), list(0, 1), list(60, 9)) {
		lists = append(lists, longer(all))
	}
	before := slices.Clone(lists)
	for i, all := range lists {
		before[i] = slices.Clone(all)
	}
	now, past := lists[len(d.Past)], slices.Delete(slices.Clone(lists), len(d.Past), len(d.Past)+1)
	for i := range d.Past {
		past[i] = past[i][:len(d.Past[i])]
	}
	pastBefore := slices.Clone(past)
	call(desk(now[:len(d.Now)], past[:len(d.Past)]...))
	if !slices.EqualFunc(lists, before, slices.Equal) || !slices.EqualFunc(past, pastBefore, slices.Equal) {
		t.Fatalf("a desk was written to: %v became %v", before, lists)
	}
}

func TestDesksAreWhatTheyShouldBe(t *testing.T) {
	var past [10]int
	for _, d := range goodDesks() {
		if !deskByWords(d) {
			t.Fatalf("not a desk: %v", d)
		}
		past[len(d.Past)]++
	}
	for many := range 9 {
		if past[many] < 4 {
			t.Fatalf("%d desks have %d lists of before", past[many], many)
		}
	}
	for _, d := range append(badDesks(), someBadDesks()...) {
		if deskByWords(d) {
			t.Fatalf("a desk: %v", d)
		}
	}
	for _, text := range noTexts() {
		if _, ok := readByWords(text); ok {
			t.Fatalf("a deed: %q", text)
		}
	}
	for _, line := range unknownLines() {
		if _, answer := lineByWords(desk(list(0, 1)), line); answer != "what" {
			t.Fatalf("answered by %s: %q", answer, line)
		}
	}
	for _, line := range questionLines() {
		if _, answer := lineByWords(desk(list(0, 1)), line); answer == "what" || answer == "ok" || answer == "not" {
			t.Fatalf("answered by %s: %q", answer, line)
		}
	}
	checkChances(t)
}

// checkChances looks whether the deeds and lines that a fixed rule tells are done, not done, asked, and unknown often enough.
func checkChances(t *testing.T) {
	t.Helper()
	done, full, long, answers := 0, 0, 0, map[string]int{}
	for seed := range uint32(60) {
		d, many := ranByWords(desk(nil), chanceDeeds(seed, 40))
		done += many
		if len(d.Past) == 8 {
			full++
		}
		if len(d.Now) > 3 {
			long++
		}
		_, said := saidByWords(desk(nil), chanceLines(seed, 40))
		for _, answer := range said {
			answers[answer]++
		}
	}
	if done < 900 || done > 2000 || full < 30 || long < 20 || answers["ok"] < 200 || answers["not"] < 100 || answers["what"] < 100 || answers["none"] < 50 || len(answers) < 80 {
		t.Fatalf("%d are done, %d desks have 8 lists of before, %d more than 3 customers, %d answers are ok, %d not, %d what, and %d none, of %d", done, full, long, answers["ok"], answers["not"], answers["what"], answers["none"], len(answers))
	}
}
