package merge_test

import (
	"math/rand"
	"strings"
	"testing"

	"mill/api"
	"mill/merge"
)

// scripted are sources whose answers are written out: of each a text, a digit for an element of that rank, e for an error; behind the text there is no more. Whom the tree asks is noted.
type scripted struct {
	t       *testing.T
	scripts []string
	stood   []int // how often each was asked
	asked   []int
}

func script(t *testing.T, scripts ...string) *scripted {
	return &scripted{t: t, scripts: scripts, stood: make([]int, len(scripts))}
}

// errorOf is the error that a source answers, another one for each source and each time.
func errorOf(source, time int) api.Errno {
	return []api.Errno{api.ErrIO, api.ErrPower, api.ErrTorn, -1, 9999, api.ErrNil}[(source+2*time)%6]
}

// answer is what a source answers when it is asked for the nth time. What counts for nothing is no zero value.
func answer(text string, source, n int) (card, bool, api.Errno) {
	junk := card{-7, -7, -7}
	switch {
	case n == len(text):
		return junk, false, api.OK
	case text[n] == 'e':
		return junk, n%2 == 0, errorOf(source, n)
	}
	return card{int(text[n] - '0'), source, n}, true, api.OK
}

// sources are the sources; none must be asked behind its end or error.
func (p *scripted) sources() []merge.Source[card] {
	l := make([]merge.Source[card], len(p.scripts))
	for i, text := range p.scripts {
		l[i] = func() (card, bool, api.Errno) {
			n := p.stood[i]
			if n > len(text) || strings.Contains(text[:n], "e") {
				p.t.Fatalf("source %d of %q is asked behind its end", i, p.scripts)
			}
			p.stood[i]++
			p.asked = append(p.asked, i)
			return answer(text, i, n)
		}
	}
	return l
}

// model says P9.3 once more, by other means: what is in hand is gone through from the first source to the last, each time.
type model struct {
	scripts []string
	stood   []int
	hand    []*card
	asked   []int
	given   int // the source whose element was given last; -1: none has been
	err     api.Errno
	failed  int
}

func newModel(scripts ...string) *model {
	return &model{scripts: scripts, stood: make([]int, len(scripts)), hand: make([]*card, len(scripts)), given: -1}
}

func (m *model) ask(i int) {
	if m.err != api.OK {
		return
	}
	c, ok, e := answer(m.scripts[i], i, m.stood[i])
	m.stood[i]++
	m.asked = append(m.asked, i)
	m.hand[i] = nil
	switch {
	case e != api.OK:
		m.err, m.failed = e, i
	case ok:
		m.hand[i] = &c
	}
}

func (m *model) next() (card, int, bool, api.Errno) {
	switch {
	case m.err != api.OK:
	case len(m.asked) == 0:
		for i := range m.scripts {
			m.ask(i)
		}
	case m.given >= 0 && m.hand[m.given] != nil:
		m.ask(m.given)
	}
	if m.err != api.OK {
		return card{}, m.failed, false, m.err
	}
	first := -1
	for i, c := range m.hand {
		if c != nil && (first < 0 || c.rank < m.hand[first].rank) {
			first = i
		}
	}
	if first < 0 {
		return card{}, 0, false, api.OK
	}
	m.given = first
	return *m.hand[first], first, true, api.OK
}

// walks holds a tree against the model, Next by Next, up to the end or an error and some further.
func walks(t *testing.T, scripts ...string) {
	t.Helper()
	p, m := script(t, scripts...), newModel(scripts...)
	calls := 0
	x := tree(t, func(a, b card) int {
		calls++
		if a.rank < 0 || b.rank < 0 {
			t.Errorf("the order is asked of what counts for nothing: %v, %v", a, b)
		}
		return byRank(a, b)
	}, p.sources()...)
	same(t, "asked by New", p.asked, nil)
	behind, n := 0, 0
	for behind < 3 {
		c, s, ok, e := x.Next()
		wc, ws, wok, we := m.next()
		n++
		if c != wc || s != ws || ok != wok || e != we {
			t.Errorf("Next %d: %v, %d, %v, %d, want %v, %d, %v, %d", n, c, s, ok, e, wc, ws, wok, we)
		}
		same(t, "asked", p.asked, m.asked)
		s, e = x.Err()
		want(t, "Err", s, m.failed)
		want(t, "Err", e, m.err)
		want(t, "Compared", x.Compared(), calls)
		if most := len(scripts) + n*digits(len(scripts)-1); calls > most {
			t.Errorf("Next %d: the order is called %d times, at most %d", n, calls, most)
		}
		if t.Failed() {
			t.Fatalf("scripts %q", scripts)
		}
		if !wok {
			behind++
		}
	}
}

// digits are how many binary digits a number has; none for 0 or less.
func digits(n int) int {
	d := 0
	for ; n > 0; n /= 2 {
		d++
	}
	return d
}

// P9.3 to P9.5: all sources of a few answers, in order or not: of none up to three.
func TestShortWalks(t *testing.T) {
	walks(t)
	for _, a := range texts("012e", 5) {
		walks(t, a)
	}
	few := texts("012e", 3)
	for _, a := range few {
		for _, b := range few {
			walks(t, a, b)
		}
	}
	fewer := texts("01e", 2)
	for _, a := range fewer {
		for _, b := range fewer {
			for _, c := range fewer {
				walks(t, a, b, c)
			}
		}
	}
}

// P9.3 to P9.5: all trees of four to seven sources that give an element each, or none, or an error.
func TestBroadWalks(t *testing.T) {
	for many := 4; many <= 7; many++ {
		for _, s := range texts("012-e", many) {
			if len(s) != many || strings.Count(s, "e") > 1 {
				continue
			}
			scripts := strings.Split(s, "")
			for i, x := range scripts {
				scripts[i] = strings.TrimPrefix(x, "-")
			}
			walks(t, scripts...)
		}
	}
}

// P9.3 to P9.5: long walks over as many sources as there may be, in order and not, with an error somewhere in some.
func TestLongWalks(t *testing.T) {
	r := rand.New(rand.NewSource(1))
	for many := range api.MaxFan + 1 {
		for round := range 12 {
			scripts := make([]string, many)
			for i := range scripts {
				b := make([]byte, r.Intn(12))
				for k := range b {
					b[k] = byte('0' + r.Intn(1+3*(round%4)))
				}
				scripts[i] = string(b)
			}
			if round%3 == 2 && many > 0 {
				i := r.Intn(many)
				at := r.Intn(len(scripts[i]) + 1)
				scripts[i] = scripts[i][:at] + "e"
			}
			walks(t, scripts...)
		}
	}
}
