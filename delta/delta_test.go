package delta

import (
	"math/rand"
	"slices"
	"strings"
	"testing"

	"recto/api"
	"recto/edit"
	"recto/tree"
)

// The document's example.
func TestExample(t *testing.T) {
	for _, s := range [][]edit.Edit{nil, script()} {
		if b, e := Bytes(s); b != "\x00" || e != api.OK {
			t.Errorf("Bytes of the empty script: %q, %v", b, e)
		}
	}
	if s, e := Read("\x00"); len(s) != 0 || e != api.OK {
		t.Errorf("Read: %v, %v", s, e)
	}
}

// holdErr asks for what Check, Bytes and Size answer of a script that has no bytes.
func holdErr(t *testing.T, s []edit.Edit, check, err api.Errno) {
	t.Helper()
	if e := Check(s); e != check {
		t.Errorf("Check: %v; want %v: %s", e, check, show(s))
	}
	if b, e := Bytes(s); b != "" || e != err {
		t.Errorf("Bytes: %d bytes, %v; want %v: %s", len(b), e, err, show(s))
	}
	if n, e := Size(s); n != 0 || e != err {
		t.Errorf("Size: %d, %v; want %v: %s", n, e, err, show(s))
	}
}

// hold asks for what Check, Bytes and Size answer of a plain script, and that its bytes are read: 23.1 to 23.3.
func hold(t *testing.T, s []edit.Edit) {
	t.Helper()
	if e := Check(s); e != api.OK {
		t.Errorf("Check: %v: %s", e, show(s))
	}
	want := scriptBytes(s)
	if b, e := Bytes(s); b != want || e != api.OK {
		t.Errorf("Bytes: %.200q, %v; want %.200q: %s", b, e, want, show(s))
	}
	if n, e := Size(s); n != len(want) || e != api.OK {
		t.Errorf("Size: %d, %v; want %d: %s", n, e, len(want), show(s))
	}
	if r, e := Read(want); !exact(r, s) || e != api.OK {
		t.Errorf("Read: %s, %v; want %s", show(r), e, show(s))
	}
}

// holdAny asks for what the chapter tells of a script, be it plain or not.
func holdAny(t *testing.T, s []edit.Edit) {
	t.Helper()
	err := plainErr(s)
	if err == api.OK {
		hold(t, s)
		return
	}
	check := err
	if len(s) <= Most && !slices.ContainsFunc(s, func(x edit.Edit) bool { return !isPlain(x) }) {
		check = api.OK
	}
	holdErr(t, s, check, err)
}

// Promises 23.1, 23.3: bytes, told by hand.
func TestBytes(t *testing.T) {
	for _, x := range []struct {
		x    edit.Edit
		want string
	}{
		{putIn(text("x"), 0, 2), "\x01\x01" + "\x01\x02\x00\x01\x02" + "\x01\x07\x01\x01\x01\x02\x01\x01x"},
		{takenOut(text("x"), 300), "\x01\x02" + "\x01\x01\x02\x01\x2c" + "\x01\x07\x01\x01\x01\x02\x01\x01x"},
		{putIn(note(""), 0), "\x01\x01" + "\x01\x01\x00" + "\x01\x05\x01\x01\x01\x03\x00"},
		{takenOut(with(in(2, elem("p", text("y"))), "a", ""), 0), "\x01\x02" + "\x01\x01\x00" + "\x01\x16\x01\x01\x01\x01\x01\x02\x01\x01p\x01\x01\x01\x01a\x00\x01\x01\x01\x02\x01\x01y"},
		{newAttrs(nil, attrs("b", "c"), 0), "\x01\x03" + "\x01\x01\x00" + "\x00" + "\x01\x02\x01\x01b\x01\x01c"},
		{newAttrs(attrs("b", "", "", "cd"), nil, 1), "\x01\x03" + "\x01\x01\x01\x01" + "\x01\x04\x01\x01b\x00\x00\x01\x02cd" + "\x00"},
		{newText("a", "", 1), "\x01\x04" + "\x01\x01\x01\x01" + "\x01\x01a\x00"},
		{newText("", "ab", 255, 256), "\x01\x04" + "\x01\x02\x01\xff\x02\x01\x00" + "\x00\x01\x02ab"},
	} {
		one, two := script(x.x), script(x.x, x.x)
		if b, e := Bytes(one); b != "\x01\x01"+x.want || e != api.OK {
			t.Errorf("Bytes: %q, %v; want %q behind how many there are", b, e, x.want)
		}
		if b, e := Bytes(two); b != "\x01\x02"+x.want+x.want || e != api.OK {
			t.Errorf("Bytes of two: %q, %v; want %q twice", b, e, x.want)
		}
		hold(t, one)
		hold(t, two)
	}
}

// Promises 23.1 to 23.3: plain edits, at the edges too, alone and among others.
func TestPlain(t *testing.T) {
	ahead, behind := newText("a", "b", 0), putIn(p("c"), 1, 2)
	for _, x := range plains() {
		if !isPlain(x) {
			t.Fatalf("not plain: %v", x)
		}
		hold(t, script(x))
		hold(t, script(ahead, x, behind))
	}
}

// Promise 23.1: edits that are not plain, wherever they stand.
func TestNotPlain(t *testing.T) {
	good := newText("a", "b", 0)
	for _, x := range append(tellingWrongs(), otherWrongs()...) {
		if isPlain(x) {
			t.Fatalf("plain: %s", show(script(x)))
		}
		for _, s := range [][]edit.Edit{{x}, {x, good}, {good, x}, {good, good, x, good}, {x, x}} {
			holdErr(t, s, api.ErrForm, api.ErrForm)
		}
	}
}

// Promise 23.1: scripts of Most edits, and of one more: that is told ahead of edits that are not plain.
func TestMost(t *testing.T) {
	if Most != 400 {
		t.Errorf("Most: %d", Most)
	}
	x, y := newText("a", "b", 0), putIn(p("a"), 3)
	wrong := edit.Edit{}
	hold(t, slices.Repeat(script(x), Most))
	hold(t, slices.Repeat(script(x, y), Most/2))
	holdErr(t, slices.Repeat(script(x), Most+1), api.ErrLong, api.ErrLong)
	holdErr(t, slices.Repeat(script(y), 5*Most), api.ErrLong, api.ErrLong)
	holdErr(t, make([]edit.Edit, Most), api.ErrForm, api.ErrForm)
	holdErr(t, make([]edit.Edit, Most+1), api.ErrLong, api.ErrLong)
	most := slices.Repeat(script(x), Most-1)
	holdErr(t, append(slices.Clone(most), wrong), api.ErrForm, api.ErrForm)
	holdErr(t, append(slices.Clone(most), wrong, x), api.ErrLong, api.ErrLong)
	holdErr(t, append(slices.Clone(most), x, wrong), api.ErrLong, api.ErrLong)
	for _, n := range []int{Most + 1, Most + 2, 655, 656, 2 * Most, 1 << 16} {
		holdWrong(t, "too many edits", scriptBytes(slices.Repeat(script(x), n)))
	}
}

// Promise 23.1: nodes that are right, but of more bytes than quill.Text takes: they are plain, and are told behind all that is not plain.
func TestTooLongNodes(t *testing.T) {
	good, wrong := newText("a", "b", 0), newText("a", "b")
	for _, n := range tooLong() {
		for _, x := range script(putIn(n, 0), takenOut(n, 0)) {
			for _, s := range [][]edit.Edit{{x}, {x, good}, {good, x}, {good, x, x, good}} {
				holdErr(t, s, api.OK, api.ErrLong)
			}
			for _, s := range [][]edit.Edit{{x, wrong}, {wrong, x}, {x, x, good, wrong}} {
				holdErr(t, s, api.ErrForm, api.ErrForm)
			}
			holdErr(t, slices.Repeat(script(x), Most+1), api.ErrLong, api.ErrLong)
			holdWrong(t, "too many bytes of a node", scriptBytes(script(x)))
		}
	}
	// Of all nodes there may be more bytes.
	hold(t, script(putIn(fullText(), 0), takenOut(fullText(), 0), newText(long(api.MaxBytes), long(api.MaxBytes), 0)))
}

// Promises 23.1 to 23.3: all scripts of two edits, of many sorts.
func TestAllPairs(t *testing.T) {
	short := func(x edit.Edit) bool { return len(editBytes(x)) < 2000 }
	var all []edit.Edit
	for _, x := range slices.Concat(plains(), tellingWrongs()) {
		if short(x) {
			all = append(all, x)
		}
	}
	all = append(all, putIn(tooLong()[0], 0), takenOut(tooLong()[0], 0))
	for _, x := range all {
		for _, y := range all {
			holdAny(t, script(x, y))
		}
	}
}

// holdWrong asks that bytes are no plain script's.
func holdWrong(t *testing.T, what, b string) {
	t.Helper()
	if s, e := Read(b); len(s) != 0 || e != api.ErrForm {
		t.Errorf("Read of %s: %s, %v: %.100q", what, show(s), e, b)
	}
}

// holdEither asks that bytes are no plain script's, or those of the script that is read: 23.2, 23.3.
func holdEither(t *testing.T, b string) bool {
	t.Helper()
	s, e := Read(b)
	if e == api.ErrForm && len(s) == 0 {
		return false
	}
	w, we := Bytes(s)
	if e != api.OK || w != b || we != api.OK {
		t.Errorf("Read(%q): %s, %v; written: %q, %v", b, show(s), e, w, we)
	}
	return true
}

// Promise 23.2: bytes that tell of what is not plain.
func TestReadNotPlain(t *testing.T) {
	good := newText("a", "b", 0)
	for _, x := range tellingWrongs() {
		for _, s := range [][]edit.Edit{{x}, {good, x}, {x, good}} {
			holdWrong(t, "what is not plain", scriptBytes(s))
		}
	}
	// Bytes of each What, with what an edit of another What has behind its way.
	for what := range 6 {
		for _, x := range script(putIn(text("a"), 0), newAttrs(nil, nil, 0), newAttrs(attrs("a", "b"), attrs("a", "b"), 0), newText("", "", 0), newText("\x01\x01\x01\x02\x01\x01a", "", 0)) {
			b := "\x01\x01" + num(what) + editBytes(x)[len(num(x.What)):]
			holdEither(t, b)
			if what == 0 || what == 5 {
				holdWrong(t, "a What that is none", b)
			}
		}
	}
}

// Promise 23.2: of the one node there are bytes of none, of two, of another form, and with something behind.
func TestReadOneNode(t *testing.T) {
	for what := edit.PutIn; what <= edit.TakenOut; what++ {
		ahead := "\x01\x01" + num(what) + "\x01\x01\x00"
		read := func(b string) api.Errno {
			_, e := Read(ahead + b)
			return e
		}
		if e := read(word(nodeBytes(list(text("a"))))); e != api.OK {
			t.Fatal(e)
		}
		for _, b := range []string{
			"", "\x00", "\x01\x00",
			word(""), word("\x00"), word("\x01"), word("a"),
			word(nodeBytes(nil)),
			word(nodeBytes(list(text("a"), note("b")))),
			word(nodeBytes(list(note("a"), note("b"), note("c")))),
			word(nodeBytes(list(text("a"))) + "\x00"),
			word(nodeBytes(list(text("a"))) + nodeBytes(list(text("a")))),
			word("\x01\x01\x01\x02"),
			word("\x02\x00\x01\x01\x02\x01\x01a"),
			word("\x01\x01\x01\x02\x02\x00\x01a"),
			word(nodeBytes(list(text("a")))) + "\x00",
			nodeBytes(list(text("a"))),
			word(word(nodeBytes(list(text("a"))))),
			// A text's length that is told too long, or with a nought ahead.
			"\x02\x00\x07" + nodeBytes(list(text("a"))),
			"\x01\x08" + nodeBytes(list(text("a"))),
			"\x01\x06" + nodeBytes(list(text("a"))),
			"\x06\x01\x00\x00\x00\x00\x00" + nodeBytes(list(text("a"))),
			"\x07" + nodeBytes(list(text("a"))),
		} {
			holdWrong(t, "what is not one node", ahead+b)
		}
	}
}

// Promise 23.2: lists of names and values that are none: of an odd number of texts, too many, or cut.
func TestReadAttrs(t *testing.T) {
	ahead := "\x01\x01\x01\x03\x01\x01\x00"
	texts := func(n int) string { return num(n) + strings.Repeat("\x01\x01a", n) }
	for _, n := range []int{0, 2, 4, 2 * api.MaxAttrs} {
		s, e := Read(ahead + texts(n) + texts(2))
		if e != api.OK || !slices.Equal(s[0].Old.Attrs, slices.Repeat(attrs("a", "a"), n/2)) {
			t.Errorf("%d texts: %s, %v", n, show(s), e)
		}
	}
	for _, n := range []int{1, 3, 2*api.MaxAttrs - 1, 2*api.MaxAttrs + 1, 2*api.MaxAttrs + 2, 999, 1000, 1001, 1002, 1 << 16} {
		for _, b := range []string{texts(n) + texts(2), texts(2) + texts(n), texts(n) + texts(n), texts(0) + texts(n), texts(n) + texts(0)} {
			holdWrong(t, "no names and values", ahead+b)
		}
	}
	for _, b := range []string{"", texts(2), texts(0), "\x01\x02\x01\x01a" + texts(0), texts(2) + "\x01\x02\x00", "\x02\x00\x02\x00\x00\x00", "\x00\x02\x00\x02\x00\x00", "\x06\xff\xff\xff\xff\xff\xff", texts(2) + texts(2) + texts(2)} {
		holdWrong(t, "no two lists", ahead+b)
	}
}

// Promise 23.2: bytes that end too early, and that go on.
func TestReadCutAndLonger(t *testing.T) {
	r := rand.New(rand.NewSource(232))
	samples := [][]edit.Edit{nil}
	for _, x := range plains() {
		if len(editBytes(x)) < 300 {
			samples = append(samples, script(x))
		}
	}
	for range 100 {
		if s := someScript(r); plainErr(s) == api.OK {
			samples = append(samples, s)
		}
	}
	for _, s := range samples {
		b := scriptBytes(s)
		if _, e := Read(b); e != api.OK {
			t.Fatalf("Read: %v: %s", e, show(s))
		}
		for i := range len(b) {
			holdWrong(t, "cut bytes", b[:i])
		}
		for _, more := range []string{"\x00", "\x01", "a", "\xff", "\x00\x00", b} {
			holdWrong(t, "bytes with something behind", b+more)
		}
		holdWrong(t, "an edit too few", num(len(s)+1)+b[len(num(len(s))):])
		if len(s) > 0 {
			holdWrong(t, "an edit too many", num(len(s)-1)+b[len(num(len(s))):])
		}
	}
	for _, x := range plains() {
		b := scriptBytes(script(x))
		for _, i := range []int{0, 1, 2, 5, len(b) / 2, len(b) - 1} {
			holdWrong(t, "cut bytes", b[:min(i, len(b)-1)])
		}
		holdWrong(t, "bytes with something behind", b+"\x00")
	}
}

// Promise 23.2: numbers that are too great, too long, or have a nought ahead, wherever one stands.
func TestReadWrongNumbers(t *testing.T) {
	numbers := []string{
		"\x01\x00", "\x02\x00\x01", "\x02\x00\x00", "\x03\x00\x01\x00", "\x06\x00\x00\x00\x00\x00\x01",
		"\x02\x01\x91", "\x02\xff\xff", "\x03\x01\x00\x01", "\x05\x01\x00\x00\x00\x01",
		"\x06\x01\x00\x00\x00\x00\x00", "\x06\x01\x00\x00\x00\x00\x01", "\x06\xff\xff\xff\xff\xff\xff",
		"\x07", "\x07\x01\x00\x00\x00\x00\x00\x01", "\x08\x01\x00\x00\x00\x00\x00\x00\x01", "\x09\x01\x00\x00\x00\x00\x00\x00\x00\x01", "\xff", "\xff" + strings.Repeat("\x01", 255),
	}
	// How many edits; What; how many steps; a step; a text; another one.
	one := []string{"\x01\x01", "\x01\x04", "\x01\x01", "\x01\x01", "\x01\x01a", "\x01\x01b"}
	if s, e := Read(strings.Join(one, "")); e != api.OK || !exact(s, script(newText("a", "b", 1))) {
		t.Fatalf("Read: %s, %v", show(s), e)
	}
	for i := range one {
		for _, n := range numbers {
			parts := slices.Clone(one)
			parts[i] = n
			if i >= 4 {
				parts[i] += "a"
			}
			holdWrong(t, "a wrong number", strings.Join(parts, ""))
			holdWrong(t, "a wrong number with much behind", strings.Join(parts, "")+strings.Repeat("\x01\x01", 2000))
		}
	}
	holdWrong(t, "nothing", "")
	for _, n := range numbers {
		holdWrong(t, "a wrong number alone", n)
	}
}

// Promises 23.2, 23.3: all bytes of a few kinds, up to some length.
func TestReadAllShort(t *testing.T) {
	var see func(b string, more int)
	read := 0
	see = func(b string, more int) {
		if holdEither(t, b) {
			read++
		}
		if more == 0 {
			return
		}
		for _, c := range []string{"\x00", "\x01", "\x02", "\x03", "\x04"} {
			see(b+c, more-1)
		}
	}
	see("", 6)
	see("\x01\x01", 6)
	see("\x01\x01\x01\x04\x01\x01", 5)
	see("\x01\x01\x01\x03\x01\x01", 5)
	see("\x01\x01\x01\x01\x01\x01\x00\x01\x05\x01\x01", 4)
	if read < 20 {
		t.Errorf("%d were read: too few to tell", read)
	}
}

// Promises 23.2, 23.3: bytes of scripts by chance, in which some were changed.
func TestReadByChance(t *testing.T) {
	r := rand.New(rand.NewSource(233))
	read, wrong := 0, 0
	for range 40000 {
		b := []byte(scriptBytes(someScript(r)))
		for range r.Intn(4) {
			at := r.Intn(len(b) + 1)
			c := []byte{byte([]int{0, 1, 2, 3, 4, 5, 'a', 255, r.Intn(256)}[r.Intn(9)])}
			switch r.Intn(3) {
			case 0:
				b = slices.Concat(b[:at], c, b[at:])
			case 1:
				b = slices.Concat(b[:at], b[min(at+1, len(b)):])
			default:
				b = slices.Concat(b[:at], c, b[min(at+1, len(b)):])
			}
		}
		if holdEither(t, string(b)) {
			read++
		} else {
			wrong++
		}
	}
	for range 20000 {
		b := make([]byte, r.Intn(30))
		r.Read(b)
		holdEither(t, string(b))
	}
	if read < 5000 || wrong < 5000 {
		t.Errorf("%d were read, %d not: too few to tell", read, wrong)
	}
}

// Promises 23.1 to 23.3: scripts by chance.
func TestScriptsByChance(t *testing.T) {
	r := rand.New(rand.NewSource(231))
	for range 5000 {
		s := someScript(r)
		holdAny(t, s)
		if len(s) > 0 && r.Intn(4) == 0 {
			x := &s[r.Intn(len(s))]
			switch r.Intn(5) {
			case 0:
				x.What = r.Intn(7) - 1
			case 1:
				x.Old, x.New = x.New, x.Old
			case 2:
				x.Way[0] = []int{-1, 300, 301}[r.Intn(3)]
			case 3:
				x.Old.Text += "a"
			case 4:
				x.New.Attrs = attrs("a", "b")
			}
			holdAny(t, s)
		}
	}
}

// Promise 23.3: unlike scripts have unlike bytes, and no one's bytes begin with another one's.
func TestNoneBeginsWithAnother(t *testing.T) {
	r := rand.New(rand.NewSource(2331))
	seen := map[string][]edit.Edit{}
	for range 20000 {
		s := someScript(r)
		b, e := Bytes(s)
		if e != api.OK {
			continue
		}
		if other, has := seen[b]; has && !exact(other, s) {
			t.Fatalf("two scripts have the bytes %q: %s, %s", b, show(s), show(other))
		}
		seen[b] = s
	}
	var all []string
	for b := range seen {
		all = append(all, b)
	}
	// In order, bytes that begin with others stand right behind some that do.
	slices.Sort(all)
	for i := 1; i < len(all); i++ {
		if strings.HasPrefix(all[i], all[i-1]) {
			t.Fatalf("%q begins with %q", all[i], all[i-1])
		}
	}
}

// holdBetween asks that the script between two right pages is plain, if it has at most Most edits, and is read as what leads there: 23.4.
func holdBetween(t *testing.T, a, b []api.Node) {
	t.Helper()
	s := edit.Script(a, b)
	if len(s) > Most {
		holdErr(t, s, api.ErrLong, api.ErrLong)
		return
	}
	if e := Check(s); e != api.OK {
		t.Fatalf("Check: %v: %s", e, show(s))
	}
	written, e := Bytes(s)
	if e != api.OK {
		t.Fatalf("Bytes: %v: %s", e, show(s))
	}
	read, e := Read(written)
	if e != api.OK {
		t.Fatalf("Read: %v: %s", e, show(s))
	}
	if l, e := edit.Apply(a, read); e != api.OK || !same(l, b) {
		t.Fatalf("%s leads somewhere else: %v", show(read), e)
	}
}

// Promise 23.4: pages by chance.
func TestBetweenPages(t *testing.T) {
	r := rand.New(rand.NewSource(234))
	var pages [][]api.Node
	for len(pages) < 150 {
		if l := some(r, 3); tree.Check(l) == api.OK {
			pages = append(pages, l)
		}
	}
	for _, a := range pages {
		for _, b := range pages {
			holdBetween(t, a, b)
		}
	}
}

// Promise 23.4: pages at the limits.
func TestBetweenGreatPages(t *testing.T) {
	pages := [][]api.Node{
		nil,
		deep(api.MaxDepth, text("a"), note("b"), text("c")),
		deep(api.MaxDepth, text("b"), note("c"), text("c")),
		many(api.MaxNodes, elem("b")),
		many(api.MaxNodes, elem("i")),
		many(api.MaxNodes, note("a")),
		append(many(api.MaxNodes-1, note("a")), elem("b")),
		many(api.MaxNodes, with(elem("b"), "a", "1")),
		many(api.MaxNodes/2, p("a")),
		many(api.MaxNodes/2, with(p("b"), "a", "1")),
		many(100, elem("u")),
		many(101, elem("u")),
		{elem("p", many(api.MaxNodes-1, note("b"))...)},
		{elem("p", many(api.MaxNodes-1, elem("b"))...)},
		{with(elem("p"), "a", "b")},
		{rights()[6]},
		{text(long(api.MaxBytes - 7))},
		{note(long(api.MaxBytes - 7))},
		{elem("p", text(long(api.MaxBytes/2)))},
		{elem("p", text(long(api.MaxBytes/2)+"y"))},
		{with(elem("p"), "a", long(api.MaxBytes/2))},
	}
	tooMany, most := false, false
	for _, a := range pages {
		if e := tree.Check(a); e != api.OK {
			t.Fatal(e)
		}
		for _, b := range pages {
			holdBetween(t, a, b)
			n := len(edit.Script(a, b))
			tooMany, most = tooMany || n == Most+1, most || n == Most
		}
	}
	if !most || !tooMany {
		t.Errorf("a script of Most edits: %v; of one more: %v", most, tooMany)
	}
}

// Rule R3: what is handed in is as it was, spare room too; what is read is new memory, of which no two lists share any.
func TestNewMemory(t *testing.T) {
	r := rand.New(rand.NewSource(3))
	samples := [][]edit.Edit{nil}
	for range 500 {
		samples = append(samples, someScript(r))
	}
	for _, x := range slices.Concat(plains(), tellingWrongs(), otherWrongs()) {
		samples = append(samples, script(x, newText("a", "b", 0), x))
	}
	for _, s := range samples {
		s = roomyScript(s)
		was := wholeScript(s)
		Check(s)
		b, e := Bytes(s)
		Size(s)
		if wholeScript(s) != was {
			t.Fatalf("what was handed in was changed: %s", was)
		}
		if e == api.OK {
			holdApart(t, b)
		}
	}
}

// holdApart spoils what is read list by list, and asks that each one was as it should be till then.
func holdApart(t *testing.T, b string) {
	t.Helper()
	s, _ := Read(b)
	want := roomyScript(s)
	for i := range s[len(s):cap(s)] {
		s[len(s):cap(s)][i] = edit.Edit{What: 99}
	}
	for i, x := range s {
		y := want[i]
		if !exact(script(x), script(y)) {
			t.Fatalf("edit %d of %s shares memory with one ahead of it", i, show(want))
		}
		for j := range x.Way[:cap(x.Way)] {
			x.Way[:cap(x.Way)][j] = -99
		}
		if !sameNode(x.Old, y.Old) || !sameNode(x.New, y.New) {
			t.Fatalf("a way and a node of edit %d of %s share memory", i, show(want))
		}
		spoilAttrs(x.Old.Attrs)
		if !slices.Equal(x.New.Attrs, y.New.Attrs) || !same(x.Old.Kids, y.Old.Kids) {
			t.Fatalf("two lists of edit %d of %s share memory", i, show(want))
		}
		spoil(x.Old.Kids)
		spoilAttrs(x.New.Attrs)
		if !same(x.New.Kids, y.New.Kids) {
			t.Fatalf("two lists of edit %d of %s share memory", i, show(want))
		}
		spoil(x.New.Kids)
	}
	if again, e := Read(b); e != api.OK || !exact(again, want) {
		t.Fatalf("Read again: %s, %v; want %s", show(again), e, show(want))
	}
}

// Nodes that lie very deep in one another, that have themselves among their Kids, and very many: each call ends, and does not take too long.
func TestVeryDeepAndMany(t *testing.T) {
	round := many(1, elem("p"))
	round[0].Kids = round
	far := deep(1<<20, text("a"))[0]
	wide := elem("p", many(1<<20, elem("b"))...)
	for _, n := range []api.Node{round[0], far, wide} {
		for _, x := range script(putIn(n, 0), takenOut(n, 0), edit.Edit{What: edit.Attrs, Way: way(0), Old: n, New: n}, edit.Edit{What: edit.Text, Way: way(0), New: n}, edit.Edit{What: edit.PutIn, Way: way(0), Old: n, New: text("a")}, edit.Edit{What: 9, Way: way(0), Old: n}) {
			if c := Check(script(x)); c != api.ErrForm {
				t.Errorf("Check, What %d: %v", x.What, c)
			}
			if _, e := Bytes(script(x)); e != api.ErrForm {
				t.Errorf("Bytes, What %d: %v", x.What, e)
			}
		}
	}
	if e := Check(script(newAttrs(manyAttrs(1<<20), nil, 0))); e != api.ErrForm {
		t.Errorf("many attributes: %v", e)
	}
	if e := Check(script(putIn(text("a"), make([]int, 1<<20)...))); e != api.ErrForm {
		t.Errorf("a long way: %v", e)
	}
	if e := Check(make([]edit.Edit, 1<<20)); e != api.ErrLong {
		t.Errorf("many edits: %v", e)
	}
	holdWrong(t, "very many bytes", strings.Repeat("\x01", 1<<24))
	holdWrong(t, "very many bytes", "\x01\x01\x01\x04\x01\x01\x00\x00\x00"+strings.Repeat("\x00", 1<<24))
	most := slices.Repeat(script(newAttrs(longAttrs(0, 1<<14, 1<<14), longAttrs(3, 1<<14, 1<<14), 0)), Most)
	hold(t, most)
}
