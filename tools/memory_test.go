package tools_test

import (
	"bytes"
	"fmt"
	"strings"
	"testing"

	"mill/api"
	"mill/tools"
)

// tried are words of each tool.
var tried = []string{"cat -ns a -", "head -c 3 a - none", "tail -n +2 a", "wc a -", "uniq -ci", "uniq a new", "comm a -", "join -a 1 -t , a -", "cut -b 1,2-3,2- -", "cut -f 2 -d a a", "tee -a a new", "echo -n a b", "cut", "nothing", "cat none"}

// P14.17, R4: nothing that is handed in is changed, spare room included.
func TestHandedIn(t *testing.T) {
	for _, words := range tried {
		room := strings.Fields(words + " spare room")
		argv := room[:len(room)-2]
		in := []byte("b\nA\na\nspare")
		data := []byte("a\nb\n\n\nspare")
		list := []api.NamedFile{{Name: "a", Data: data[:6]}, {Name: "b", Data: nil}, {Name: "spare"}}
		tools.Plain(argv, in[:6], list[:2])
		want(t, words, strings.Join(room, " "), words+" spare room")
		want(t, words+": in", string(in), "b\nA\na\nspare")
		want(t, words+": data", string(data), "a\nb\n\n\nspare")
		want(t, words+": files", fmt.Sprint(list[0].Name, list[1].Name, list[1].Data, list[2].Name), "ab[]spare")
		s := world{files: files{"a": "a\n"}}.system(t, api.FsConfig{})
		tools.Run(s, argv, s.Input(in), s.Sink(-1), s.Sink(-1))
		want(t, words+": Run", strings.Join(room, " "), words+" spare room")
	}
}

// P14.17, R4: what is answered is new memory, and nothing is kept from one call to the next.
func TestAnswers(t *testing.T) {
	for _, words := range tried {
		argv := strings.Fields(words)
		in, data := []byte("b\nA\na\n"), []byte("a\nb\n\n")
		list := []api.NamedFile{{Name: "a", Data: data}}
		out, errs, status := tools.Plain(argv, in, list)
		kept, keptErrs := bytes.Clone(out), bytes.Clone(errs)
		for _, b := range [][]byte{in, data} {
			for i := range b {
				b[i] = 'X'
			}
		}
		for i := range argv {
			argv[i] = "X"
		}
		want(t, words+": put out", string(out), string(kept))
		want(t, words+": diagnostics", string(errs), string(keptErrs))
		// Spare room as well: whatever is done to one answer, the other one does not see it.
		for i := range out[:cap(out)] {
			out[:cap(out)][i] = 'Y'
		}
		want(t, words+": diagnostics", string(errs), string(keptErrs))
		want(t, words+": what was handed in", strings.ContainsRune(string(in)+string(data), 'Y'), false)
		again, againErrs, againStatus := tools.Plain(strings.Fields(words), []byte("b\nA\na\n"), []api.NamedFile{{Name: "a", Data: []byte("a\nb\n\n")}})
		want(t, words+": put out again", string(again), string(kept))
		want(t, words+": diagnostics again", string(againErrs), string(keptErrs))
		want(t, words+": status again", againStatus, status)
	}
}

// R5: calls side by side answer as they do alone.
func TestSideBySide(t *testing.T) {
	w := world{stdin: lines("a b b c"), files: files{"a": lines("a c d"), "b": lines("b b e")}}
	for _, words := range []string{"cat -n a - b", "join -a 1 -a 2 a b", "comm - b", "uniq -c - new", "tee x y", "wc a b none"} {
		w := w.words(words)
		once := w.run(t, api.FsConfig{})
		done := make(chan result)
		for range 8 {
			s := w.system(t, api.FsConfig{})
			go func() { done <- w.on(s) }()
		}
		for range 8 {
			want(t, words, <-done, once)
		}
	}
}
