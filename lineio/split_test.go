package lineio_test

import (
	"strings"
	"testing"

	"mill/api"
	"mill/lineio"
)

// P2.1: the lines of all short texts, by separators that a Reader takes and that it does not.
func TestSplitAll(t *testing.T) {
	for _, sep := range []byte{'\n', 0, 'a', 255} {
		for _, data := range texts("b\n\x00a\xff", 4) {
			parts := strings.Split(data, string([]byte{sep}))
			last := parts[len(parts)-1]
			if last == "" {
				parts = parts[:len(parts)-1]
			}
			lines, whole := lineio.Split([]byte(data), sep)
			equal(t, brief(data), lines, parts)
			want(t, brief(data), whole, last == "")
		}
	}
}

// P2.1: no data, of both kinds.
func TestSplitNothing(t *testing.T) {
	for _, data := range [][]byte{nil, {}} {
		lines, whole := lineio.Split(data, '\n')
		want(t, "lines", len(lines), 0)
		want(t, "whole", whole, true)
	}
}

// P2.1: lines may be longer than a Reader takes them.
func TestSplitLong(t *testing.T) {
	long := xs(3*api.MaxLine + 1)
	lines, whole := lineio.Split([]byte("a\n"+long+"\n"+long), '\n')
	equal(t, "long", lines, []string{"a", long, long})
	want(t, "whole", whole, false)
}

// P2.2: every line gets a separator, whatever it holds.
func TestJoin(t *testing.T) {
	for _, c := range []struct {
		lines []string
		sep   byte
		data  string
	}{
		{nil, '\n', ""},
		{[]string{}, 0, ""},
		{[]string{""}, '\n', "\n"},
		{[]string{"", ""}, 0, "\x00\x00"},
		{[]string{"b", "a", "b"}, '\n', "b\na\nb\n"},
		{[]string{"a\nb", "c"}, '\n', "a\nb\nc\n"},
		{[]string{"a", "xax"}, 'a', "aaxaxa"},
		{[]string{"\xff\x00"}, 255, "\xff\x00\xff"},
	} {
		want(t, "Join", string(lineio.Join(c.lines, c.sep)), c.data)
	}
	long := xs(2 * api.MaxLine)
	want(t, "a long line", string(lineio.Join([]string{long}, '\n')) == long+"\n", true)
}

// P2.1, P2.2: one takes back what the other makes, where every line has its separator and holds none.
func TestSplitTakesBackJoin(t *testing.T) {
	for _, data := range texts("a\n", 7) {
		lines, whole := lineio.Split([]byte(data), '\n')
		if whole {
			want(t, brief(data), string(lineio.Join(lines, '\n')), data)
		}
	}
}

// P2.13: what is handed in stays, spare room too, and no answer hangs on it or on another one.
func TestSplitAndJoinShareNothing(t *testing.T) {
	room := []byte("ab\ncd|spare")
	lines, _ := lineio.Split(room[:5], '\n')
	want(t, "data", string(room), "ab\ncd|spare")
	clear(room)
	equal(t, "lines", lines, []string{"ab", "cd"})

	list := []string{"a", "b", "spare"}
	one, two := lineio.Join(list[:2], '\n'), lineio.Join(list[:2], '\n')
	equal(t, "list", list, []string{"a", "b", "spare"})
	clear(one[:cap(one)])
	want(t, "the other answer", string(two), "a\nb\n")
	want(t, "the same again", string(lineio.Join(list[:2], '\n')), "a\nb\n")
}
