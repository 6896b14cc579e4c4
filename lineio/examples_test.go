package lineio_test

import (
	"testing"

	"mill/api"
	"mill/lineio"
)

// Example 1 of the chapter.
func TestExample1(t *testing.T) {
	for _, c := range []struct {
		data  string
		sep   byte
		lines []string
		whole bool
	}{
		{"a\nb\n\nc", '\n', []string{"a", "b", "", "c"}, false},
		{"a\n", '\n', []string{"a"}, true},
		{"\n", '\n', []string{""}, true},
		{"a\nb", 0, []string{"a\nb"}, false},
	} {
		lines, whole := lineio.Split([]byte(c.data), c.sep)
		equal(t, c.data, lines, c.lines)
		want(t, c.data, whole, c.whole)
	}
}

// Example 2.
func TestExample2(t *testing.T) {
	want(t, "Join", string(lineio.Join([]string{"a", ""}, '\n')), "a\n\n")
}

// Example 3.
func TestExample3(t *testing.T) {
	s, r := reader(t, "ab\ncd", 3, '\n', api.FsConfig{})
	line(t, s, r, "ab", 1)
	want(t, "Whole", r.Whole(), true)
	line(t, s, r, "cd", 3)
	want(t, "Whole", r.Whole(), false)
	noLine(t, s, r, api.OK, 3)
}

// Example 4.
func TestExample4(t *testing.T) {
	s, r := reader(t, "ab\ncd", 64, '\n', api.FsConfig{})
	line(t, s, r, "ab", 1)
	line(t, s, r, "cd", 2)
}

// Example 5: TestLongLine has more of it.
func TestExample5(t *testing.T) {
	s, r := reader(t, xs(65537), 1, '\n', api.FsConfig{})
	noLine(t, s, r, api.ErrLong, 65537)
	s, r = reader(t, xs(65536)+"\n", 1, '\n', api.FsConfig{})
	line(t, s, r, xs(65536), 65537)
}

// Example 6.
func TestExample6(t *testing.T) {
	s, w := writer(t, 4, '\n', api.FsConfig{})
	want(t, "Put", w.Put("ab"), api.OK)
	wrote(t, s, "", 0)
	want(t, "Put", w.Put("c"), api.OK)
	wrote(t, s, "ab\nc", 1)
	want(t, "Flush", w.Flush(), api.OK)
	wrote(t, s, "ab\nc\n", 2)
	want(t, "Flush", w.Flush(), api.OK)
	wrote(t, s, "ab\nc\n", 2)
	stat(t, w, 2, 5, 5)
}

// Example 7.
func TestExample7(t *testing.T) {
	s, r := reader(t, "ab\ncd\n", 5, '\n', api.FsConfig{Faults: []api.Fault{{Op: api.OpRead, Nth: 2}}})
	line(t, s, r, "ab", 1)
	for range 3 {
		noLine(t, s, r, api.ErrIO, 2)
	}
}

// Example 8.
func TestExample8(t *testing.T) {
	_, w := writer(t, 4, '\n', api.FsConfig{})
	want(t, "Put", w.Put("a\nb"), api.ErrInner)
	s, w := writer(t, 4, 0, api.FsConfig{})
	want(t, "Put", w.Put("a\nb"), api.OK)
	wrote(t, s, "a\nb\x00", 1)
}
