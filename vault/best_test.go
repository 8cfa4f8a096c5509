package vault_test

import (
	"math/rand/v2"
	"slices"
	"testing"

	"shambles/api"
	"shambles/stall"
	"shambles/vault"
)

// plain is a hall of one bay that bears everything, with kinds that need nothing, by their rents.
func plain(wide, deep int, rents ...int) api.Hall {
	h := api.Hall{Wide: wide, Deep: deep, Bay: api.Cell{X: wide, Y: deep}, Bears: []int{10000000}}
	for _, rent := range rents {
		h.Kinds = append(h.Kinds, api.Kind{Away: make([]int, len(rents)), Rent: rent, Most: 24})
	}
	return h
}

// P3.4: the examples of Best, and its edges.
func TestBest(t *testing.T) {
	rents := func(first, second int) api.Hall {
		return changed(func(h *api.Hall) { h.Kinds[0].Rent, h.Kinds[1].Rent = first, second })
	}
	eight := plain(3, 3, 1)
	eight.Shut = []api.Cell{{X: 1, Y: 1}}
	eight.Kinds[0].Away[0] = 2
	three := copied(eight)
	three.Kinds[0].Load, three.Bears[0] = span(1, 1), 3
	single := plain(2, 2, 5)
	single.Kinds[0].Most = 1
	pair := plain(2, 1, 7, 7)
	weak := plain(2, 1, 4, 2)
	weak.Kinds[0].Load, weak.Kinds[1].Load, weak.Bears[0] = span(0, 2), span(1, 1), 2
	heavy := plain(1, 1, 4)
	heavy.Kinds[0].Load, heavy.Bears[0] = span(0, 3), 2
	for i, c := range []struct {
		h    api.Hall
		want []api.Put
		e    api.Errno
	}{
		{hall(), []api.Put{put(0, 0, 0), put(1, 2, 0), put(1, 2, 1)}, api.OK},
		{changed(func(h *api.Hall) { h.Bears[0] = 0 }), []api.Put{put(1, 2, 0), put(1, 0, 1), put(1, 2, 1)}, api.OK},
		{changed(func(h *api.Hall) { h.Bears[3] = 300 }), []api.Put{put(1, 0, 0), put(1, 1, 0), put(1, 0, 1), put(0, 2, 1)}, api.OK},
		{rents(50, 50), []api.Put{put(0, 0, 0), put(1, 2, 0), put(1, 2, 1)}, api.OK},
		{rents(49, 50), []api.Put{put(1, 0, 0), put(1, 1, 0), put(1, 2, 0)}, api.OK},
		{rents(100, 50), []api.Put{put(0, 0, 0), put(1, 2, 0), put(1, 2, 1)}, api.OK},
		{rents(90, 0), []api.Put{put(0, 0, 0)}, api.OK},
		{rents(0, 0), nil, api.OK},
		{eight, []api.Put{put(0, 0, 0), put(0, 2, 0), put(0, 0, 2), put(0, 2, 2)}, api.OK},
		{three, []api.Put{put(0, 0, 0), put(0, 2, 0), put(0, 0, 2)}, api.OK},
		{single, []api.Put{put(0, 0, 0)}, api.OK},
		{pair, []api.Put{put(0, 0, 0), put(0, 1, 0)}, api.OK},
		{weak, []api.Put{put(0, 0, 0)}, api.OK},
		{heavy, nil, api.OK},
		{full(), nil, api.OK},
		{plain(4, 2, 1, 3, 2), everyone(1, 4, 2), api.OK},
		{plain(3, 3, 0), nil, api.ErrFull},
		{plain(6, 4, 1), nil, api.ErrFull},
	} {
		if got, e := vault.Best(c.h); !slices.Equal(got, c.want) || e != c.e {
			t.Error(i, got, e)
		}
	}
}

// everyone is a stall of a kind at each place.
func everyone(kind, wide, deep int) []api.Put {
	var l []api.Put
	for i := range wide * deep {
		l = append(l, put(kind, i%wide, i/wide))
	}
	return l
}

// P3.4, P3.10: the best layout is in order, and allowed; no allowed one earns more, nor as much with fewer puts, nor with as many and comes before: all layouts are looked at.
func TestBestOfAll(t *testing.T) {
	tied := 0
	for h := range halls(3000) {
		chosen := best(t, h)
		if !allowed(h, chosen) || !slices.IsSortedFunc(chosen, byPlace) {
			t.Fatal(h, chosen)
		}
		for l := range layouts(h) {
			more, puts := rent(h, l)-rent(h, chosen), len(l)-len(chosen)
			if more < 0 || slices.Equal(l, chosen) || !allowed(h, l) {
				continue
			}
			if more > 0 || puts < 0 || puts == 0 && slices.CompareFunc(l, chosen, byPlace) < 0 {
				t.Fatal(h, chosen, l)
			}
			tied++
		}
	}
	if tied < 1000 {
		t.Error("few layouts that earn as much:", tied)
	}
}

// P3.11: with vaults that bear more, and lighter or dearer stalls, the best layout earns no less.
func TestStronger(t *testing.T) {
	r := rand.New(rand.NewPCG(3, 11))
	gained := 0
	for range 2000 {
		h := pickHall(r, 6, 4, 4, 6)
		before := rent(h, best(t, h))
		better := copied(h)
		for bay := range better.Bears {
			better.Bears[bay] += r.IntN(3)
		}
		for i := range better.Kinds {
			k := &better.Kinds[i]
			k.Load = span(max(0, k.Load.Lo-r.IntN(2)), k.Load.Hi)
			k.Load.Hi = max(k.Load.Lo, k.Load.Hi-r.IntN(2))
			k.Rent += r.IntN(2)
		}
		after := rent(better, best(t, better))
		if after < before {
			t.Fatal(h, better, before, after)
		}
		if after > before {
			gained++
		}
	}
	if gained < 500 {
		t.Error("few halls that gain:", gained)
	}
}

// mirrored is a hall, left to right, whose width is a number of whole bays.
func mirrored(h api.Hall) api.Hall {
	m := copied(h)
	for i, c := range h.Water {
		m.Water[i].X = h.Wide - 1 - c.X
	}
	for i, c := range h.Shut {
		m.Shut[i].X = h.Wide - 1 - c.X
	}
	for row := range slices.Chunk(m.Bears, h.Wide/h.Bay.X) {
		slices.Reverse(row)
	}
	return m
}

// P3.12: a hall that is mirrored earns as much with its best layout, and bears mirrored layouts just as before.
func TestMirror(t *testing.T) {
	r := rand.New(rand.NewPCG(3, 12))
	looked := 0
	for looked < 300 {
		h := pickHall(r, 4, 3, 3, 5)
		if h.Wide%h.Bay.X != 0 {
			continue
		}
		looked++
		m := mirrored(h)
		if got, want := rent(m, best(t, m)), rent(h, best(t, h)); got != want {
			t.Fatal(h, m, got, want)
		}
		for l := range layouts(h) {
			turned := slices.Clone(l)
			for i, p := range l {
				turned[i].At.X = h.Wide - 1 - p.At.X
			}
			verdict, e := vault.Bears(h, l)
			other, f := vault.Bears(m, turned)
			if verdict != other || e != f {
				t.Fatal(h, l, verdict, e, other, f)
			}
		}
	}
}

// T5: of an allowed layout of all stalls those that are let make an allowed one, and each other stall has room at its place.
func TestPlaced(t *testing.T) {
	r := rand.New(rand.NewPCG(3, 5))
	empty := 0
	for h := range halls(2000) {
		l := best(t, h)
		if len(l) == 0 {
			continue
		}
		holders, e := stall.Let(pickLetting(r, len(l)))
		if e != api.OK {
			t.Fatal(e)
		}
		var let []api.Put
		for i, holder := range holders {
			if holder >= 0 {
				let = append(let, l[i])
			}
		}
		if verdict, e := vault.Bears(h, let); verdict != api.Sure || e != api.OK {
			t.Fatal(h, let, verdict, e)
		}
		for i, holder := range holders {
			room, e := vault.Room(h, let, l[i].Kind)
			if e != api.OK || slices.Contains(room, l[i].At) != (holder < 0) {
				t.Fatal(h, let, l[i], room, e)
			}
			if holder < 0 {
				empty++
			}
		}
	}
	if empty < 500 {
		t.Error("few stalls that are not let:", empty)
	}
}

// pickLetting returns a letting of so many stalls by lot, which some applicants wish.
func pickLetting(r *rand.Rand, stalls int) api.Letting {
	l := api.Letting{Stalls: slices.Repeat([]api.Stall{{Rule: api.LetLot, Heir: -1}}, stalls)}
	for range r.IntN(stalls + 1) {
		wishes := r.Perm(stalls)[:1+r.IntN(stalls)]
		l.Applicants = append(l.Applicants, api.Applicant{Token: r.IntN(1000), Wishes: wishes, Bids: make([]int, len(wishes))})
	}
	return l
}
