package cold

import (
	"iter"

	"shambles/api"
)

// larder is a valid cellar at work: how warm each box may be, hour by hour.
type larder struct {
	cellar api.Cellar
	boxes  [][]ends
}

func larderOf(c api.Cellar) larder {
	k := larder{cellar: c}
	for box := range c.Boxes {
		s := begin(c, box)
		k.boxes = append(k.boxes, each(s.hours(api.MaxHours), s.warmth))
	}
	return k
}

// each returns what something is in each hour, told by the ice in it.
func each(hours iter.Seq2[int, ends], told func(ice ends) ends) []ends {
	var all []ends
	for _, ice := range hours {
		all = append(all, told(ice))
	}
	return all
}

// warmths hands out how warm it may be where a lot is, hour by hour, before an hour.
func (k larder) warmths(l api.Lot, before int) iter.Seq[ends] {
	return func(yield func(ends) bool) {
		for hour := l.Born; hour < before; hour++ {
			if !yield(k.around(l, hour)) {
				return
			}
		}
	}
}

// around returns how warm it may be around a lot in an hour.
func (k larder) around(l api.Lot, hour int) ends {
	for _, s := range l.Stays {
		if s.From <= hour && hour < s.To {
			return k.boxes[s.Box][hour]
		}
	}
	return endsOf(k.cellar.Hall)
}

// loss returns what may be lost in an hour in which it may be so warm: no less, the warmer it is.
func (k larder) loss(warmth ends) ends {
	var loss ends
search:
	for end, tenths := range warmth {
		for _, r := range k.cellar.Rates {
			if r.Above > tenths {
				continue search
			}
			loss[end] = r.Loss
		}
	}
	return loss
}

// lost returns what a lot may have lost at an hour.
func (k larder) lost(l api.Lot, hour int) api.Span { return sum(k.warmths(l, hour), k.loss) }

// sum returns the least and the greatest that parts may be together, each of which is told of one item.
func sum[T any](items iter.Seq[T], part func(item T) ends) api.Span {
	var all api.Span
	for item := range items {
		p := part(item)
		all.Lo += p[least]
		all.Hi += p[most]
	}
	return all
}
