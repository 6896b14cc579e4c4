package tools_test

import "testing"

func TestExample1(t *testing.T) {
	world{stdin: "a\n\nb"}.words("cat -n").ends(t, 0, "     1\ta\n     2\t\n     3\tb", "")
}

func TestExample2(t *testing.T) {
	world{stdin: "q\nr\n", files: files{"x": "a\nb\n"}}.words("head -n 1 x -").ends(t, 0, "==> x <==\na\n\n==> - <==\nq\n", "")
}

func TestExample3(t *testing.T) {
	world{stdin: "a\nb\nc"}.words("tail -n +2").ends(t, 0, "b\nc", "")
	world{stdin: "abc"}.words("tail -c 2").ends(t, 0, "bc", "")
}

func TestExample4(t *testing.T) {
	world{files: files{"x": "a b\nc"}}.words("wc x y").ends(t, 1, "1 3 5 x\n1 3 5 total\n", "wc: y: errno 12\n")
}

func TestExample5(t *testing.T) {
	world{stdin: "a\na\nb"}.words("uniq -c").ends(t, 0, "      2 a\n      1 b\n", "")
	world{stdin: "1 x\n2 x\n3 y\n"}.words("uniq -f 1").ends(t, 0, "1 x\n3 y\n", "")
}

func TestExample6(t *testing.T) {
	w := world{stdin: "b\nc\n", files: files{"x": "a\nb\n"}}
	w.words("comm x -").ends(t, 0, "a\n\t\tb\n\tc\n", "")
	w.words("comm -13 x -").ends(t, 0, "c\n", "")
}

func TestExample7(t *testing.T) {
	w := world{stdin: "1 p\n1 q\n2 r\n", files: files{"x": "1 a\n3 c\n"}}
	w.words("join x -").ends(t, 0, "1 a p\n1 a q\n", "")
	w.words("join -a 1 x -").ends(t, 0, "1 a p\n1 a q\n3 c\n", "")
	w.words("join -v 2 x -").ends(t, 0, "2 r\n", "")
}

func TestExample8(t *testing.T) {
	w := world{stdin: "a\tb\tc\nd\n"}
	w.words("cut -f 2-").ends(t, 0, "b\tc\nd\n", "")
	w.words("cut -f 2- -s").ends(t, 0, "b\tc\n", "")
	world{stdin: "wxyz\n"}.words("cut -b 3,1-1").ends(t, 0, "wy\n", "")
}

func TestExample9(t *testing.T) {
	world{}.words("echo -n a b").ends(t, 0, "a b", "")
	world{}.words("echo -- x").ends(t, 0, "-- x\n", "")
	world{}.words("cut").ends(t, 2, "", "cut: usage\n")
}
