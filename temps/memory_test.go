package temps_test

import (
	"strings"
	"testing"

	"mill/api"
	"mill/temps"
)

// P11.14: what a registry answers is new memory, and what is handed in is neither changed nor kept.
func TestRegistryMemory(t *testing.T) {
	s := system(t, api.FsConfig{})
	avoid := roomy([]string{"t.00001", "other"}, "spare")
	prefix, name := strings.Clone("t"), strings.Clone("a name")
	r := registry(t, s, prefix, avoid...)
	untouched(t, "avoid", avoid, []string{"t.00001", "other"}, "spare")
	avoid[0] = "t.00002"
	reserves(t, s, r, "t.00002", 1)
	adopt(t, r, name)
	_, made, e := r.Make()
	want(t, "Make", e, api.OK)
	one, two := r.Names(), r.Names()
	reserved, _ := r.Reserve()
	lists := append(append(ofTexts(one), ofTexts(two)...), ofText(name), ofText(made), ofText(reserved))
	apart(t, "Names", lists...)
	one[0], one[1] = "x", "y"
	names(t, r, "a name", "t.00003")
	_ = append(one[:0], "z", "z", "z", "z")
	names(t, r, "a name", "t.00003")
	n, e := r.Sweep()
	want(t, "removed", n, 0)
	want(t, "Sweep", e, api.ErrBusy)
	want(t, "what was answered", two[0]+two[1], "a namet.00003")
}

// P11.14: Encode and Decode.
func TestEntryMemory(t *testing.T) {
	in := roomy([]int{1, 2, 3}, -7)
	e := merged(strings.Clone("a name"), 1, 2, 3, in...)
	e.In = in
	a, _ := temps.Encode(1, e)
	b, _ := temps.Encode(1, e)
	untouched(t, "In", in, []int{1, 2, 3}, -7)
	apart(t, "Encode", ofList(a), ofList(b), ofList(in), ofText(e.Name))

	l := every()
	data := bytesOf(l...)
	given := roomy(data, 0xAA)
	one, _, _ := temps.Decode(given)
	two, _, _ := temps.Decode(given)
	untouched(t, "Decode", given, data, 0xAA)
	apart(t, "Decode", append(append(ofEntries(one), ofEntries(two)...), ofList(given))...)
	clear(given)
	same(t, "what was answered", one, l)
	torn := roomy(data[:len(data)-1], 0xAA)
	temps.Decode(torn)
	untouched(t, "Decode", torn, data[:len(data)-1], 0xAA)
}

// P11.14: a journal keeps nothing of what is handed in, and gives nothing of what it keeps.
func TestJournalMemory(t *testing.T) {
	s, j := begun(t, api.FsConfig{})
	in := roomy([]int{1, 2, 3}, -7)
	e := merged(strings.Clone("a name"), 1, 2, 3)
	e.In = in
	want(t, "Note", j.Note(e), api.OK)
	untouched(t, "In", in, []int{1, 2, 3}, -7)
	in[0] = 9
	wanted := []api.Entry{job(7), merged("a name", 1, 2, 3, 1, 2, 3)}
	one, two := j.Entries(), j.Entries()
	same(t, "Entries", one, wanted)
	apart(t, "Entries", append(append(ofEntries(one), ofEntries(two)...), ofList(in), ofText(e.Name))...)
	one[0], one[1].In[0] = making("x"), 8
	same(t, "Entries", j.Entries(), wanted)
	want(t, "Close", j.Close(), api.OK)

	j, three, errno := temps.Resume(s, "j", 7)
	want(t, "Resume", errno, api.OK)
	four := j.Entries()
	apart(t, "Resume", append(append(ofEntries(three), ofEntries(four)...), ofEntries(two)...)...)
	three[1].In[1] = 77
	_ = append(three, making("y"))
	same(t, "Entries", j.Entries(), wanted)
	want(t, "Note", j.Note(making("z")), api.OK)
	holds(t, s, j, append(wanted, making("z"))...)
	same(t, "what was answered", four, wanted)
}
