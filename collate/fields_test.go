package collate_test

import (
	"slices"
	"strings"
	"testing"

	"mill/api"
	"mill/collate"
)

// P5.2: without a separator.
func TestFieldsOfBlanks(t *testing.T) {
	fields(t, "a", -1, api.Span{From: 0, To: 1})
	fields(t, " ", -1, api.Span{From: 0, To: 1})
	fields(t, "\t \t", -1, api.Span{From: 0, To: 3})
	fields(t, "ab\t cd", -1, api.Span{From: 0, To: 2}, api.Span{From: 2, To: 6})
	fields(t, "ab  ", -1, api.Span{From: 0, To: 2}, api.Span{From: 2, To: 4})
	fields(t, "a\nb c\x00d", -1, api.Span{From: 0, To: 3}, api.Span{From: 3, To: 7})
	fields(t, "\n \v\r\f\u00a0", -1, api.Span{From: 0, To: 1}, api.Span{From: 1, To: 7})
	fields(t, "a,b;c", -1, api.Span{From: 0, To: 5})
}

// P5.2: with a separator, a blank too.
func TestFieldsOfTabs(t *testing.T) {
	fields(t, ",", 44, api.Span{}, api.Span{From: 1, To: 1})
	fields(t, "a,", 44, api.Span{From: 0, To: 1}, api.Span{From: 2, To: 2})
	fields(t, ",a", 44, api.Span{}, api.Span{From: 1, To: 2})
	fields(t, " a , b ", 44, api.Span{From: 0, To: 3}, api.Span{From: 4, To: 7})
	fields(t, "  a ", 32, api.Span{}, api.Span{From: 1, To: 1}, api.Span{From: 2, To: 3}, api.Span{From: 4, To: 4})
	fields(t, "a\tb c", 9, api.Span{From: 0, To: 1}, api.Span{From: 2, To: 5})
	fields(t, "a\x00\xffb", 0, api.Span{From: 0, To: 1}, api.Span{From: 2, To: 4})
	fields(t, "a\x00\xffb", 255, api.Span{From: 0, To: 2}, api.Span{From: 3, To: 4})
	fields(t, "\u00ff", 0xbf, api.Span{From: 0, To: 1}, api.Span{From: 2, To: 2})
	fields(t, "abc", 44, api.Span{From: 0, To: 3})
}

// P5.2: no fields, if tab may not be.
func TestFieldsOfWrongTabs(t *testing.T) {
	for _, tab := range []int{-2, 256, 300, -212, 256 + 44, -farOff - 1, farOff} {
		fields(t, "a,b c", tab)
		fields(t, "", tab)
	}
}

// P5.2: all short lines, and strange ones, with every separator, are cut as by the model; with one byte the parts and separators make up the line.
func TestFieldsAgainstTheModel(t *testing.T) {
	for _, line := range append(texts(" \t,ab", 5), strange(7, 300)...) {
		for _, tab := range []int{-1, 9, 32, 44, 'a', 0, 255} {
			fields(t, line, tab, modelFields(line, tab)...)
		}
	}
	for tab := range 256 {
		for _, line := range strange(int64(tab), 20) {
			fields(t, line, tab, modelFields(line, tab)...)
		}
		sep := string([]byte{byte(tab)})
		fields(t, sep+sep, tab, api.Span{}, api.Span{From: 1, To: 1}, api.Span{From: 2, To: 2})
	}
	if t.Failed() {
		return
	}
	line := strings.Repeat("ab,,", 100000)
	want(t, "fields", len(collate.Fields(line, 44)), 200001)
	want(t, "fields", len(collate.Fields(line, -1)), 1)
	want(t, "fields", len(collate.Fields(strings.Repeat(" \ta", 100000), -1)), 100000)
}

// R4: the fields are new memory, spare room included.
func TestFieldsShareNothing(t *testing.T) {
	a, b := collate.Fields("a b c d e", -1), collate.Fields("a b c d e", -1)
	apart(t, "Fields", []block{ofList(a), ofList(b)})
	kept := slices.Clone(b)
	a[0] = api.Span{From: 9, To: 9}
	if !slices.Equal(b, kept) || !slices.Equal(collate.Fields("a b c d e", -1), kept) {
		t.Errorf("Fields: %v", b)
	}
}
