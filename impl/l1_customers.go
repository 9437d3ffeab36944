package impl

import "slices"

// MaxCustomers is the maximum number of customers, MaxCome is the latest time at which one comes, and MaxNeed is the greatest need.
const (
	MaxCustomers = 8
	MaxCome      = 60
	MaxNeed      = 9
)

// latestAsked bounds the time of ComeBy: it lies far behind MaxCome, so that one may ask for times at which all have come.
const latestAsked = 1000

// Customer comes at a time (Come), and needs so many units of time (Need).
type Customer struct {
	Come int
	Need int
}

// ok does not look at the customer ahead, which a customer alone does not know.
func (c Customer) ok() bool {
	return within(c.Come, 0, MaxCome) && within(c.Need, 1, MaxNeed)
}

func (c Customer) later(by int) Customer {
	c.Come += by
	return c
}

func (c Customer) gapTo(behind Customer) int {
	return behind.Come - c.Come
}

func within(number, least, greatest int) bool {
	return least <= number && number <= greatest
}

// fold is generic because later layers fold over lists of other things, and into other things, than customers and sums.
func fold[T, R any](list []T, start R, step func(R, T) R) R {
	result := start
	for _, x := range list {
		result = step(result, x)
	}
	return result
}

// CustomersOk reports whether there are at most MaxCustomers customers, each of whom comes at a time in 0..MaxCome, none before the one ahead, and needs 1..MaxNeed units of time.
func CustomersOk(list []Customer) bool {
	if len(list) > MaxCustomers {
		return false
	}
	ahead := 0
	for _, c := range list {
		if !c.ok() || c.Come < ahead {
			return false
		}
		ahead = c.Come
	}
	return true
}

// NeedOf returns what customers (CustomersOk) need together; -1 for others.
func NeedOf(list []Customer) int {
	if !CustomersOk(list) {
		return -1
	}
	return fold(list, 0, func(sum int, c Customer) int { return sum + c.Need })
}

// ComeBy returns how many customers (CustomersOk) have come at a time, in 0..1000, or before it, and what these need together, and true; -1, -1 and false for others.
func ComeBy(list []Customer, time int) (int, int, bool) {
	if !CustomersOk(list) || !within(time, 0, latestAsked) {
		return -1, -1, false
	}
	come := comeUpTo(list, time)
	return len(come), NeedOf(come), true
}

// comeUpTo may cut the list, because nobody comes before the one ahead; its result is a part of the list and must not be given out.
func comeUpTo(list []Customer, time int) []Customer {
	for i, c := range list {
		if c.Come > time {
			return list[:i]
		}
	}
	return list
}

// GapsOf returns for each customer (CustomersOk) but the first one how much later that one comes than the one ahead; nil for others.
func GapsOf(list []Customer) []int {
	if !CustomersOk(list) {
		return nil
	}
	var gaps []int
	for i := 1; i < len(list); i++ {
		gaps = append(gaps, list[i-1].gapTo(list[i]))
	}
	return gaps
}

// LaterBy returns customers (CustomersOk) who all come so much later, in 0..MaxCome, and true; nil and false if these are none (CustomersOk), and for others.
func LaterBy(list []Customer, by int) ([]Customer, bool) {
	if !CustomersOk(list) || !within(by, 0, MaxCome) {
		return nil, false
	}
	var all []Customer
	for _, c := range list {
		all = append(all, c.later(by))
	}
	if !CustomersOk(all) {
		return nil, false
	}
	return all, true
}

// LastLeave returns the least time at which all customers (CustomersOk) may be served, if the counter serves one at a time, and nobody before coming: the greatest of all numbers that are the time at which a customer comes, and what this one and all behind need, added; 0 without customers; -1 for others.
func LastLeave(list []Customer) int {
	if !CustomersOk(list) {
		return -1
	}
	last, needed := 0, 0
	// From the last one to the first one, what this one and all behind need grows by one need at a time.
	for _, c := range slices.Backward(list) {
		needed += c.Need
		last = max(last, c.Come+needed)
	}
	return last
}
