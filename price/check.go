package price

import (
	"cmp"
	"slices"

	"shambles/api"
	"shambles/bounds"
)

// Check returns the first error of a book.
func Check(b api.Book) api.Errno {
	return cmp.Or(
		bounds.Within(b.Stalls, 1, api.MaxLet),
		bounds.Within(b.Goods, 1, api.MaxWares),
		checkSales(b),
	)
}

func checkSales(b api.Book) api.Errno {
	if e := bounds.Counted(len(b.Sales), 0, api.MaxSales); e != api.OK {
		return e
	}
	for _, s := range b.Sales {
		e := cmp.Or(
			bounds.Named(s.Stall, b.Stalls),
			bounds.Named(s.Good, b.Goods),
			bounds.Span(s.Grams, 0, api.MaxGrams),
			bounds.Span(s.Cents, 0, api.MaxCents),
		)
		if e != api.OK {
			return e
		}
	}
	return api.OK
}

// checkSteps returns the first error of steps for dues.
func checkSteps(steps []api.Step) api.Errno {
	if e := bounds.Counted(len(steps), 1, api.MaxSteps); e != api.OK {
		return e
	}
	for i, s := range steps {
		e := cmp.Or(
			bounds.Within(s.From, 0, api.MaxTurnover),
			bounds.Within(s.Share, 0, api.MaxShare),
			checkFrom(s.From, steps[:i]),
		)
		if e != api.OK {
			return e
		}
	}
	return api.OK
}

// checkFrom returns an error unless a step may begin there, behind the steps before.
func checkFrom(from int, before []api.Step) api.Errno {
	if len(before) == 0 {
		return bounds.Unless(from == 0, api.ErrForm)
	}
	return bounds.Unless(from > before[len(before)-1].From, api.ErrOrder)
}

// checkFinds returns the first error of finds for a valid book.
func checkFinds(b api.Book, finds []api.Found) api.Errno {
	if e := bounds.Counted(len(finds), 0, api.MaxSales); e != api.OK {
		return e
	}
	for i, f := range finds {
		if e := checkFind(b.Sales, f, finds[:i]); e != api.OK {
			return e
		}
	}
	return api.OK
}

// checkFind returns the error of a find behind those before.
func checkFind(sales []api.Sale, f api.Found, before []api.Found) api.Errno {
	if e := bounds.Named(f.Sale, len(sales)); e != api.OK {
		return e
	}
	s := sales[f.Sale]
	found := slices.ContainsFunc(before, func(other api.Found) bool { return other.Sale == f.Sale })
	return cmp.Or(
		bounds.Unless(!found, api.ErrExists),
		checkTrue(f.Grams, s.Grams),
		checkTrue(f.Cents, s.Cents),
	)
}

// checkTrue returns an error unless a span says that a number may be.
func checkTrue(number int, s api.Span) api.Errno {
	return bounds.Unless(s.Lo <= number && number <= s.Hi, api.ErrClash)
}
