package vault_test

import (
	"math/rand/v2"
	"slices"
	"testing"

	"shambles/api"
	"shambles/vault"
)

// P3.2: the examples of Loads, Bears and Earns, and their edges.
func TestLoads(t *testing.T) {
	bearing := func(bears ...int) api.Hall { return changed(func(h *api.Hall) { h.Bears = bears }) }
	deep := bearing(300, 500)
	deep.Bay.Y = 2
	heavy := full()
	heavy.Shut, heavy.Bay, heavy.Bears = nil, api.Cell{X: 6, Y: 4}, []int{10000000}
	heavy.Kinds[0].Away[0] = 0
	one := []api.Put{put(0, 2, 1)}
	for i, c := range []struct {
		h       api.Hall
		l       []api.Put
		loads   []api.Span
		verdict int
		rent    int
	}{
		{hall(), stalls(), []api.Span{span(200, 300), span(100, 150), {}, {}}, api.Sure, 140},
		{hall(), nil, make([]api.Span, 4), api.Sure, 0},
		{bearing(0, 0, 0, 0), nil, make([]api.Span, 4), api.Sure, 0},
		{hall(), one, []api.Span{{}, {}, {}, span(200, 300)}, api.Open, 90},
		{bearing(500, 300, 500, 199), one, []api.Span{{}, {}, {}, span(200, 300)}, api.Never, 90},
		{bearing(0, 0, 0, 299), one, []api.Span{{}, {}, {}, span(200, 300)}, api.Open, 90},
		{bearing(0, 0, 0, 300), one, []api.Span{{}, {}, {}, span(200, 300)}, api.Sure, 90},
		{bearing(299, 300, 0, 0), stalls(), []api.Span{span(200, 300), span(100, 150), {}, {}}, api.Open, 140},
		{bearing(299, 99, 0, 0), stalls(), []api.Span{span(200, 300), span(100, 150), {}, {}}, api.Never, 140},
		{bearing(199, 149, 0, 0), stalls(), []api.Span{span(200, 300), span(100, 150), {}, {}}, api.Never, 140},
		{hall(), []api.Put{put(1, 0, 1), put(1, 1, 0), put(1, 0, 0)}, []api.Span{span(200, 300), {}, span(100, 150), {}}, api.Sure, 150},
		{deep, stalls(put(1, 2, 1)), []api.Span{span(200, 300), span(200, 300)}, api.Sure, 190},
		{heavy, everywhere(heavy), []api.Span{span(24000000, 24000000)}, api.Never, 24000000},
		{heavy, everywhere(heavy)[:10], []api.Span{span(10000000, 10000000)}, api.Sure, 10000000},
	} {
		loads, e := vault.Loads(c.h, c.l)
		verdict, f := vault.Bears(c.h, c.l)
		rent, g := vault.Earns(c.h, c.l)
		if !slices.Equal(loads, c.loads) || verdict != c.verdict || rent != c.rent || e != api.OK || f != api.OK || g != api.OK {
			t.Error(i, loads, e, verdict, f, rent, g)
		}
	}
}

// P3.6: whatever the loads truly are, each bay carries a load within Loads, and what Bears says is so. P3.7: both ends of each number are reached, and an open verdict is so in one truth, and not in another one.
func TestTruths(t *testing.T) {
	met := map[int]int{}
	for h := range smallHalls(600) {
		for l := range layouts(h) {
			if wantLayout(h, l) != api.OK || len(l) > 4 {
				continue
			}
			verdict, e := vault.Bears(h, l)
			if e != api.OK {
				t.Fatal(h, l, e)
			}
			holdTruths(t, h, l, verdict)
			met[verdict]++
		}
	}
	if met[api.Sure] < 1000 || met[api.Never] < 1000 || met[api.Open] < 1000 || len(met) != 3 {
		t.Error("few verdicts of a kind:", met)
	}
}

func holdTruths(t *testing.T, h api.Hall, l []api.Put, verdict int) {
	t.Helper()
	loads, e := vault.Loads(h, l)
	if e != api.OK || len(loads) != len(h.Bears) {
		t.Fatal(h, l, loads, e)
	}
	var reached []api.Span
	yes, no := false, false
	for truth := range truths(h, l) {
		for bay, load := range carried(h, l, truth) {
			if bay == len(reached) {
				reached = append(reached, span(load, load))
			}
			reached[bay] = span(min(reached[bay].Lo, load), max(reached[bay].Hi, load))
		}
		if borne(h, l, truth) {
			yes = true
		} else {
			no = true
		}
	}
	want := map[[2]bool]int{{true, false}: api.Sure, {false, true}: api.Never, {true, true}: api.Open}[[2]bool{yes, no}]
	if !slices.Equal(loads, reached) || verdict != want {
		t.Fatal(h, l, loads, reached, verdict, want)
	}
}

// P3.2: Earns adds up the rents, however the puts stand.
func TestEarns(t *testing.T) {
	for h := range halls(600) {
		for l := range layouts(h) {
			if earned, e := vault.Earns(h, l); e != wantLayout(h, l) || e == api.OK && earned != rent(h, l) {
				t.Fatal(h, l, earned, e)
			}
		}
	}
}

// P3.8: a layout of which puts are left out is valid, carries no more, and is allowed if it was.
func TestFewer(t *testing.T) {
	for h := range halls(600) {
		for l := range layouts(h) {
			if wantLayout(h, l) != api.OK {
				continue
			}
			before, _ := vault.Loads(h, l)
			verdict, _ := vault.Bears(h, l)
			for i := range l {
				less := slices.Delete(slices.Clone(l), i, i+1)
				after, e := vault.Loads(h, less)
				fewer, f := vault.Bears(h, less)
				if e != api.OK || f != api.OK || verdict == api.Sure && fewer != api.Sure {
					t.Fatal(h, l, less, e, f, fewer)
				}
				for bay := range after {
					if after[bay].Lo > before[bay].Lo || after[bay].Hi > before[bay].Hi {
						t.Fatal(h, l, less, before, after)
					}
				}
			}
		}
	}
}

// P3.8: a layout in another order is valid, and carries the same.
func TestOrder(t *testing.T) {
	r := rand.New(rand.NewPCG(3, 8))
	several := 0
	for h := range halls(600) {
		for l := range layouts(h) {
			if wantLayout(h, l) != api.OK {
				continue
			}
			before, _ := vault.Loads(h, l)
			verdict, _ := vault.Bears(h, l)
			earned, _ := vault.Earns(h, l)
			other := slices.Clone(l)
			r.Shuffle(len(other), func(i, j int) { other[i], other[j] = other[j], other[i] })
			after, e := vault.Loads(h, other)
			turned, f := vault.Bears(h, other)
			again, g := vault.Earns(h, other)
			if e != api.OK || f != api.OK || g != api.OK || !slices.Equal(before, after) || verdict != turned || earned != again {
				t.Fatal(h, l, other, e, before, after)
			}
			if !slices.Equal(l, other) {
				several++
			}
		}
	}
	if several < 1000 {
		t.Error("few layouts in another order:", several)
	}
}

// P3.3: the examples of Room, and its edges.
func TestRoom(t *testing.T) {
	strong := changed(func(h *api.Hall) { h.Bears[3] = 300 })
	wide := full()
	wide.Shut = nil
	wide.Kinds[0].Away[0] = 0
	for i, c := range []struct {
		h    api.Hall
		l    []api.Put
		kind int
		want []api.Cell
		e    api.Errno
	}{
		{hall(), stalls()[:1], 1, []api.Cell{{X: 2, Y: 0}, {X: 2, Y: 1}}, api.OK},
		{hall(), stalls()[:1], 0, nil, api.OK},
		{hall(), nil, 0, []api.Cell{{X: 0, Y: 0}}, api.OK},
		{strong, nil, 0, []api.Cell{{X: 0, Y: 0}, {X: 2, Y: 1}}, api.OK},
		{strong, stalls()[:1], 0, []api.Cell{{X: 2, Y: 1}}, api.OK},
		{hall(), nil, 1, []api.Cell{{X: 0, Y: 0}, {X: 1, Y: 0}, {X: 2, Y: 0}, {X: 0, Y: 1}, {X: 2, Y: 1}}, api.OK},
		{changed(func(h *api.Hall) { h.Kinds[1].Most = 0 }), nil, 1, nil, api.OK},
		{changed(func(h *api.Hall) { h.Kinds[1].Most = 1 }), stalls(), 1, nil, api.OK},
		{changed(func(h *api.Hall) { h.Kinds[1].Most = 2 }), stalls(), 1, []api.Cell{{X: 2, Y: 1}}, api.OK},
		{hall(), []api.Put{put(0, 2, 1)}, 1, nil, api.OK},
		{strong, []api.Put{put(0, 2, 1)}, 1, []api.Cell{{X: 0, Y: 0}, {X: 1, Y: 0}, {X: 0, Y: 1}}, api.OK},
		{wide, everywhere(wide)[:23], 0, []api.Cell{{X: 5, Y: 3}}, api.OK},
		{wide, everywhere(wide), 0, nil, api.OK},
		{full(), nil, 0, nil, api.OK},
		{hall(), stalls(), 2, nil, api.ErrKind},
		{hall(), stalls(), -1, nil, api.ErrKind},
		{wide, everywhere(wide), 6, nil, api.ErrKind},
		{hall(), stalls(put(1, 1, 1)), 2, nil, api.ErrState},
	} {
		if got, e := vault.Room(c.h, c.l, c.kind); !slices.Equal(got, c.want) || e != c.e {
			t.Error(i, got, e)
		}
	}
}

// P3.3, P3.9: one more stall is allowed just at the places of Room.
func TestOneMore(t *testing.T) {
	some, none := 0, 0
	for h := range halls(600) {
		for l := range layouts(h) {
			if wantLayout(h, l) != api.OK {
				continue
			}
			for kind := range h.Kinds {
				var want []api.Cell
				for _, c := range cells(h) {
					if allowed(h, append(slices.Clone(l), api.Put{At: c, Kind: kind})) {
						want = append(want, c)
					}
				}
				if got, e := vault.Room(h, l, kind); !slices.Equal(got, want) || e != api.OK {
					t.Fatal(h, l, kind, got, want, e)
				}
				if want == nil {
					none++
				} else {
					some++
				}
			}
		}
	}
	if some < 1000 || none < 1000 {
		t.Error("few layouts with room, or without:", some, none)
	}
}
