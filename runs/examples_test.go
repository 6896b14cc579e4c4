package runs_test

import (
	"testing"

	"mill/api"
)

// Example 1 of the chapter, and 6, which goes on behind it.
func TestExamples1And6(t *testing.T) {
	g := gen(t, order(t, ""), 3, 1000)
	adds(t, g, "", "d", "a", "c")
	adds(t, g, "0:a(1)", "b")
	adds(t, g, "0:b(3)", "x")
	adds(t, g, "0:c(2)", "a")
	holds(t, g, 3, 6)
	want(t, "Runs", g.Runs(), 2)
	want(t, "Finish", tagged(g.Finish()), "0:d(0) 0:x(4) 1:a(5)")
	holds(t, g, 0, 0)
	want(t, "Runs", g.Runs(), 2)
	adds(t, g, "", "z")
	want(t, "Runs", g.Runs(), 3)
	want(t, "Finish", tagged(g.Finish()), "2:z(6)")
}

// Example 2.
func TestExample2(t *testing.T) {
	g := gen(t, order(t, ""), 3, 1000)
	adds(t, g, "0:7(2)", "9", "8", "7", "6")
	adds(t, g, "0:8(1)", "5")
	adds(t, g, "0:9(0)", "4")
	adds(t, g, "1:4(5)", "3")
	want(t, "Finish", tagged(g.Finish()), "1:5(4) 1:6(3) 2:3(6)")
}

// Example 3.
func TestExample3(t *testing.T) {
	g := gen(t, order(t, ""), 1, 1000)
	adds(t, g, "", "b")
	adds(t, g, "0:b(0)", "c")
	adds(t, g, "0:c(1)", "c")
	adds(t, g, "0:c(2)", "a")
	adds(t, g, "1:a(3)", "b")
	adds(t, g, "1:b(4)", "")
	want(t, "Finish", tagged(g.Finish()), "2:(5)")
}

// Example 4.
func TestExample4(t *testing.T) {
	g := gen(t, order(t, ""), 1000, 5)
	adds(t, g, "", "ab")
	holds(t, g, 1, 3)
	adds(t, g, "0:ab(0)", "cd")
	adds(t, g, "0:cd(1)", "abcdefgh")
	holds(t, g, 1, 9)
	want(t, "Finish", tagged(g.Finish()), "1:abcdefgh(2)")
}

// Example 5.
func TestExample5(t *testing.T) {
	g := gen(t, order(t, "-fs"), 2, 1000)
	adds(t, g, "", "b", "B")
	adds(t, g, "0:b(0)", "b")
	adds(t, g, "0:B(1)", "B")
	want(t, "Finish", tagged(g.Finish()), "0:b(2) 0:B(3)")
}

// Example 7.
func TestExample7(t *testing.T) {
	l := load(t, order(t, ""), 2, 1000, 2, nil)
	adds(t, l, "", "c", "a")
	holds(t, l, 2, 4)
	adds(t, l, "0:a(1) 0:c(0)", "b")
	holds(t, l, 1, 2)
	for _, wanted := range []string{"1:b(2)", "", ""} {
		out, e := l.Finish()
		want(t, "Finish", e, api.OK)
		want(t, "Finish", tagged(out), wanted)
		holds(t, l, 0, 0)
	}
}

// Example 8.
func TestExample8(t *testing.T) {
	l := load(t, order(t, ""), 2, 1000, 1, nil)
	want(t, "Skip", l.Skip(10, 3), api.OK)
	adds(t, l, "3:a(10) 3:b(11)", "a", "b", "c")
	out, e := l.Finish()
	want(t, "Finish", e, api.OK)
	want(t, "Finish", tagged(out), "4:c(12)")
}
