package tree

import (
	"slices"
	"strings"
	"testing"

	"recto/api"
)

// holdWrong asks that bytes are no nodes'.
func holdWrong(t *testing.T, what, b string) {
	t.Helper()
	if l, e := Read(b); len(l) != 0 || e != api.ErrForm {
		t.Errorf("Read of %s: %s, %v: %.100q", what, show(l), e, b)
	}
}

// holdEither asks that bytes are no nodes', or those of the nodes that are read.
func holdEither(t *testing.T, b string) {
	t.Helper()
	l, e := Read(b)
	if e == api.ErrForm && len(l) == 0 {
		return
	}
	w, we := Bytes(l)
	if e != api.OK || w != b || we != api.OK {
		t.Errorf("Read(%q): %v, %v; written: %q, %v", b, l, e, w, we)
	}
}

// smallRights are all right lists of at most n nodes of some kinds.
func smallRights(n int) [][]api.Node {
	heads := []api.Node{text("a"), text("\x01"), note(""), note("a"), elem("p"), elem("pa"), in(api.SVG, elem("p")), with(elem("p"), attr("a", "")), with(elem("p"), attr("a", "b"), attr("b", "a"))}
	return slices.DeleteFunc(smalls(n, heads...), func(l []api.Node) bool { return !plainRight(l) })
}

// Promises 8.2, 8.3: what was written is read.
func TestWrittenIsRead(t *testing.T) {
	for i, l := range append(rights(), smallRights(3)...) {
		b, e := Bytes(l)
		if e != api.OK {
			t.Fatalf("nodes %d: %v", i, e)
		}
		m, e := Read(b)
		if e != api.OK || !plainSame(l, m) || !Same(l, m) {
			t.Errorf("nodes %d: read %s, %v", i, show(m), e)
		}
	}
}

// Promise 8.3: unlike nodes have unlike bytes, and no one's bytes begin with another one's.
func TestNoneBeginsWithAnother(t *testing.T) {
	var all []string
	for _, l := range smallRights(4) {
		b, e := Bytes(l)
		if e != api.OK {
			t.Fatal(e)
		}
		all = append(all, b)
	}
	// In order, bytes that begin with others stand right behind some that do.
	slices.Sort(all)
	for i := 1; i < len(all); i++ {
		if strings.HasPrefix(all[i], all[i-1]) {
			t.Fatalf("%q begins with %q", all[i], all[i-1])
		}
	}
}

// Promise 8.2: bytes of nodes that are not right.
func TestReadNotRight(t *testing.T) {
	_, telling := wrongs()
	for _, l := range telling {
		holdWrong(t, "wrong nodes", plainBytes(l))
	}
	holdWrong(t, "one node too many", plainBytes(many(api.MaxNodes+1, elem("b"))))
	holdWrong(t, "one node too many below", plainBytes(list(elem("b", many(api.MaxNodes, note(""))...))))
	holdWrong(t, "one node too many in two lists", plainBytes(append(many(150, note("")), elem("b", many(150, note(""))...))))
	holdWrong(t, "one element too deep", plainBytes(deep(api.MaxDepth+1)))
	holdWrong(t, "a Kind that is none too deep", plainBytes(deep(api.MaxDepth, kind(0))))
	over := long(api.MaxBytes + 1)
	for _, n := range []api.Node{text(over), note(over), with(elem("p"), attr("a", over)), elem(over), with(elem("p"), attr(over, ""))} {
		holdWrong(t, "one byte too many", plainBytes(list(n)))
		holdWrong(t, "one byte too many below", plainBytes(deep(3, n)))
	}
	// All that is written so is read just if it is right.
	heads := []api.Node{text("a"), text(""), note(""), elem("p"), elem("P"), in(3, elem("p")), with(elem("p"), attr("a", "\r")), with(elem("p"), attr("a", ""), attr("a", "")), kind(0)}
	for _, l := range smalls(3, heads...) {
		if slices.ContainsFunc(l, hidden) {
			continue
		}
		if m, e := Read(plainBytes(l)); (e == api.OK) != plainRight(l) || e == api.OK && !plainSame(l, m) {
			t.Fatalf("Read: %v, %v: %v", m, e, l)
		}
	}
}

// hidden tells whether a node has something that its bytes don't tell.
func hidden(n api.Node) bool {
	return (n.Kind == api.Text || n.Kind == api.Comment) && len(n.Kids) > 0 || slices.ContainsFunc(n.Kids, hidden)
}

// Promise 8.2: bytes that end too early, and that go on.
func TestReadCutAndLonger(t *testing.T) {
	for _, l := range append(rights()[:24], smallRights(2)...) {
		b := plainBytes(l)
		for i := range len(b) {
			holdWrong(t, "cut bytes", b[:i])
		}
		for _, s := range []string{"\x00", "\x01", "a", "\xff", "\x01\x03\x00", b} {
			holdWrong(t, "bytes with something behind", b+s)
		}
	}
	for _, l := range rights()[24:] {
		b := plainBytes(l)
		for i := range 50 {
			holdWrong(t, "cut bytes", b[:len(b)*i/50])
		}
		holdWrong(t, "cut bytes", b[:len(b)-1])
		holdWrong(t, "bytes with something behind", b+"\x00")
		holdWrong(t, "bytes twice", b+b)
	}
}

// Promise 8.2: numbers of another form, and counts that nothing follows.
func TestReadNumbers(t *testing.T) {
	const empty = "\x01\x03\x00" // a comment
	const p = "\x01\x01\x00\x01\x01p"
	right := []string{
		"\x00", "\x01\x01" + empty, "\x01\x01\x01\x02\x01\x01a", "\x01\x01" + p + "\x00\x00", "\x01\x01" + p + "\x01\x01\x01\x01a\x00\x00",
	}
	for _, b := range right {
		if _, e := Read(b); e != api.OK {
			t.Fatalf("Read(%q): %v", b, e)
		}
	}
	for _, b := range []string{
		// Written too long.
		"\x01\x00", "\x02\x00\x00", "\x02\x00\x01" + empty, "\x03\x00\x00\x01" + empty, "\x01\x01\x02\x00\x03\x00", "\x01\x01\x01\x03\x01\x00",
		"\x01\x01\x01\x02\x02\x00\x01a", "\x01\x01\x01\x01\x01\x00\x01\x01p\x00\x00", "\x01\x01\x01\x01\x00\x02\x00\x01p\x00\x00",
		"\x01\x01" + p + "\x01\x00\x00", "\x01\x01" + p + "\x00\x01\x00", "\x01\x01" + p + "\x00\x02\x00\x01" + empty, "\x01\x01" + p + "\x02\x00\x01\x01\x01a\x00\x00",
		// Kinds and Spaces that are none.
		"\x01\x01\x00\x00", "\x01\x01\x01\x04\x00", "\x01\x01\x02\x01\x03\x00", "\x01\x01\x02\x01\x02\x01\x01a", "\x01\x01\x06\x01\x00\x00\x00\x00\x00\x00", "\x01\x01\x07\x00",
		"\x01\x01\x01\x01\x01\x03\x01\x01p\x00\x00", "\x01\x01\x01\x01\x02\x01\x00\x01\x01p\x00\x00", "\x01\x01\x01\x01\x06\x01\x00\x00\x00\x00\x00\x01\x01p\x00\x00",
		// Counts that are greater than what follows, or less.
		"\x01\x01", "\x01\x02" + empty, "\x02\x01\x2c" + empty, "\x06\x01\x00\x00\x00\x00\x00" + empty, "\x00" + empty, "\x01\x01" + empty + empty,
		"\x01\x01" + p + "\x01\x01\x00", "\x01\x01" + p + "\x01\x0c\x01\x01a\x00\x00", "\x01\x01" + p + "\x06\x01\x00\x00\x00\x00\x00\x00", "\x01\x01" + p + "\x00\x01\x01", "\x01\x01" + p + "\x00\x01\x02" + empty,
		"\x01\x01" + p + "\x00\x06\x01\x00\x00\x00\x00\x00" + empty, "\x01\x01\x01\x02\x01\x02a", "\x01\x01\x01\x02\x06\x01\x00\x00\x00\x00\x00a", "",
	} {
		holdWrong(t, "a wrong number", b)
	}
	holdWrong(t, "one node less than counted", "\x02\x01\x2c"+strings.Repeat(empty, api.MaxNodes-1))
	holdWrong(t, "more nodes than may be", "\x06\x01\x00\x00\x00\x00\x00"+strings.Repeat(empty, 100000))
	holdWrong(t, "more attributes than may be", "\x01\x01"+p+"\x06\x01\x00\x00\x00\x00\x00"+strings.Repeat("\x01\x01a\x00", 100000))
	holdWrong(t, "far too deep", "\x01\x01"+strings.Repeat(p+"\x00\x01\x01", 1<<20)+empty)
	holdWrong(t, "noughts", strings.Repeat("\x00", 100000))
}

// Promises 8.2, 8.3: of bytes near to nodes' ones, what is read is written as it was.
func TestReadIsWritten(t *testing.T) {
	l := rights()
	for _, b := range []string{plainBytes(l[len(l)-1]), plainBytes(l[11]), plainBytes(l[16]), plainBytes(l[20])} {
		for i := range len(b) {
			for c := range 256 {
				holdEither(t, b[:i]+string([]byte{byte(c)})+b[i+1:])
				holdEither(t, b[:i]+string([]byte{byte(c)})+b[i:])
			}
			for j := i + 1; j <= len(b); j++ {
				holdEither(t, b[:i]+b[j:])
				holdEither(t, b[:j]+b[i:])
			}
		}
	}
}

// Promises 8.2, 8.3: of all short bytes, those are nodes' that are written of some.
func TestAllShortBytes(t *testing.T) {
	const most = 9
	found := 0
	var walk func(b []byte)
	walk = func(b []byte) {
		holdEither(t, string(b))
		if _, e := Read(string(b)); e == api.OK {
			found++
		}
		if len(b) < most {
			for _, c := range []byte{0, 1, 2, 3, 'a'} {
				walk(append(b, c))
			}
		}
	}
	walk(make([]byte, 0, most))
	// Three nodes have more bytes.
	want := 0
	for _, l := range smalls(2, shortHeads()...) {
		if b, e := Bytes(l); e == api.OK && len(b) <= most {
			want++
		}
	}
	if found != want || want < 100 {
		t.Errorf("%d short bytes are nodes'; want %d", found, want)
	}
}

// shortHeads are all nodes that short bytes of 0, 1, 2, 3 and a can tell of.
func shortHeads() []api.Node {
	var all []api.Node
	texts := []string{""}
	for range 3 {
		for _, s := range texts {
			for _, c := range []string{"\x01", "\x02", "\x03", "a"} {
				texts = append(texts, s+c)
			}
		}
		slices.Sort(texts)
		texts = slices.Compact(texts)
	}
	for _, s := range texts {
		all = append(all, text(s), note(s))
	}
	for _, name := range []string{"a", "aa"} {
		all = append(all, elem(name), in(api.SVG, elem(name)), in(api.Math, elem(name)))
	}
	return all
}

// Rule R3: what is read is new memory, of which no two lists share any.
func TestReadIsNew(t *testing.T) {
	for _, l := range append(rights(), smallRights(3)...) {
		b := plainBytes(l)
		one, _ := Read(b)
		scribble(one)
		if !plainSame(one, l) {
			t.Fatalf("two lists share memory: %s", show(one))
		}
		spoil(one)
		if two, e := Read(b); e != api.OK || !plainSame(two, l) {
			t.Fatalf("Read: %s, %v", show(two), e)
		}
	}
}
