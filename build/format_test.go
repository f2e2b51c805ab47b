package build

import (
	"strings"
	"testing"
)

// Format and Link: begun anew, inserted, and added to the list.
func TestFormat(t *testing.T) {
	with(t, forms+" a", "<@ x=1>1</@>2", "@ x=1(1)2")
	with(t, forms+" a", "<p>1<@>2<p>3", "p(1@(2))p(@(3))")
	with(t, forms+" a", "<p><@ x=1 y=2>1<p><x>", "p(@ x=1 y=2(1))p(@ x=1 y=2(x()))")
	with(t, forms, "<p><@><@>1<p>2", "p(@(@(1)))p(@(@(2)))")
	with(t, forms+" a", "<p><x><@>1</x>2", "p(x(@(1))@(2))")
	all(t, []example{
		{"<p><b><i>1<p><u>2", "p(b(i(1)))p(b(i(u(2))))"},
		{"<p><b><i>1</p><b>2", "p(b(i(1)))b(i(b(2)))"},
		{"<p><b>1</p><!--c-->2", "p(b(1))!c!b(2)"},
		{"<p><b>1</p> ", "p(b(1))b( )"},
		{"<div><b>1</div><p>2</p>3", "div(b(1))p(b(2))b(3)"},
	})
}

// Of formatting elements that are alike no more than three are begun anew.
func TestAlike(t *testing.T) {
	all(t, []example{
		{"<b><b><b><b>x<p>y", "b(b(b(b(xp(y)))))"},
		{"<p><b><b><b>x<p>y", "p(b(b(b(x))))p(b(b(b(y))))"},
		{"<p><b><b><b><b>x<p>y", "p(b(b(b(b(x)))))p(b(b(b(y))))"},
		{"<p><b><b><b><b><b><b>x<p>y", "p(b(b(b(b(b(b(x)))))))p(b(b(b(y))))"},
		{"<p><b x=1><b x=1><b x=1><b x=2>x<p>y", "p(b x=1(b x=1(b x=1(b x=2(x)))))p(b x=1(b x=1(b x=1(b x=2(y)))))"},
		{"<p><b x=1><b x=1><b x=1><b x=1>x<p>y", "p(b x=1(b x=1(b x=1(b x=1(x)))))p(b x=1(b x=1(b x=1(y))))"},
		{"<p><b><i><b><b><b>x<p>y", "p(b(i(b(b(b(x))))))p(i(b(b(b(y)))))"},
	})
}

// The end of a format, where no block is behind it.
func TestEndPlain(t *testing.T) {
	with(t, forms+" a", "</@>1", "1")
	with(t, forms+" a", "<x></@>1", "x(1)")
	with(t, forms+" a", "<@><x><y>1</@>2", "@(x(y(1)))2")
	with(t, forms+" a", "<p><@>1</p></@>2", "p(@(1))2")
	with(t, forms+" a", "<@><table></@>1", "@(1table())")
	with(t, forms+" a", "<@><table><td></@>1", "@(table(tbody(tr(td(1)))))")
	with(t, forms+" a", "<@><table><caption></@>1", "@(table(caption(1)))")
	with(t, forms+" a", "<@><svg><desc></@>1", "@(svg:svg(svg:desc(1)))")
	with(t, forms+" a", "<@><math><mi></@>1", "@(math:math(math:mi(1)))")
	with(t, forms+" a", "<@><math><mi><x></@>1", "@(math:math(math:mi(x(1))))")
	with(t, forms+" a", "<@><svg></@>1", "@(svg:svg())1")
	all(t, []example{
		{"<b>1<i>2</b>3</i>4", "b(1i(2))i(3)4"},
		{"<b>1<i>2<u>3</b>4</i>5</u>6", "b(1i(2u(3)))i(u(4))u(5)6"},
		{"<b><b>1</b>2</b>3", "b(b(1)2)3"},
		{"<b x=1><b x=2>1</b>2", "b x=1(b x=2(1)2)"},
		// The top is one that was taken out of the list, as there were three more that are alike.
		{"<b><b><b><b>1</b></b></b></b>2", "b(b(b(b(1))))2"},
		{"<b><b><b><b>1</b></b></b>2</b>3", "b(b(b(b(1)))2)3"},
		{"<b><p><b><b><b>1</p></b>2", "b(p(b(b(b(1)))))b(b(b(2)))"},
		{"<b><p><b><b><b>1</p></b></b>2", "b(p(b(b(b(1)))))b(b(2))"},
		// One that is in no list any more, and not the top, ends as any other element.
		{"<b><b><b><b></b></b></b><x></b>2", "b(b(b(b()))x())2"},
		{"<b><b><b><b></b></b></b><p></b>2", "b(b(b(b()))p(2))"},
		{"<p><b>1</p></b></b>2", "p(b(1))2"},
	})
}

// The end of a format ahead of which blocks began.
func TestEndBlock(t *testing.T) {
	with(t, forms+" a", "<@ x=1>1<p>2</@>3", "@ x=1(1)p(@ x=1(2)3)")
	with(t, blocks+" pre h1 li p", "<b>1<@>2</b>3", "b(1)@(b(2)3)")
	all(t, []example{
		{"<b>1<div>2<section>3</b>4", "b(1)div(b(2)section(b(3)4))"},
		{"<b>1<div>2</div>3</b>4", "b(1div(2)3)4"},
		{"<b><p></b>", "b()p(b())"},
		{"<b><p></b>1", "b()p(b()1)"},
		{"<b>1<p>2</b>3</p>4", "b(1)p(b(2)3)4"},
		{"<div><b>1<p>2</b>3</p>4", "div(b(1)p(b(2)3)4)"},
		{"<b>1<x>2<p>3</b>4", "b(1x(2))p(b(3)4)"},
		{"<b>1<x>2<p>3</b>4</p>5</x>6", "b(1x(2))p(b(3)4)56"},
		{"<b>1<i>2<p>3</b>4", "b(1i(2))i(p(b(3)4))"},
		{"<b>1<i>2<p>3</b>4</i>5", "b(1i(2))i()p(i(b(3)4)5)"},
		{"<b>1<i>2<x>3<p>4</b>5", "b(1i(2x(3)))i(p(b(4)5))"},
		{"<b>1<x>2<i>3<p>4</b>5", "b(1x(2i(3)))i(p(b(4)5))"},
		{"<b>1<i a=1>2<p>3</b>4", "b(1i a=1(2))i a=1(p(b(3)4))"},
		{"<b>1<svg>2<p>3</b>4", "b(1svg:svg(2))p(b(3)4)"},
		{"<b><ul><li>1</b>2<li>3", "b()ul(b()li(b(1)2)li(3))"},
		{"<b>1<!--c--><p>2<!--d--></b>3", "b(1!c!)p(b(2!d!)3)"},
		{"<b><i><p>1</i>2</b>3", "b(i())p(b(i(1)2)3)"},
		{"<b>1<p>2<i>3</b>4</i>5", "b(1)p(b(2i(3))i(4)5)"},
		{"<b><b><b><b><p>1</b>2", "b(b(b(b()p(b(1)2))))"},
	})
}

// More than three formatting elements between the format and the block: the outer ones are left out.
func TestEndManyBetween(t *testing.T) {
	all(t, []example{
		{"<b><i><u><em><p>1</b>2", "b(i(u(em())))i(u(em(p(b(1)2))))"},
		{"<b><i><u><em><code><p>1</b>2", "b(i(u(em(code()))))u(em(code(p(b(1)2))))"},
		{"<b><strong><i><u><em><code><p>1</b>2", "b(strong(i(u(em(code())))))u(em(code(p(b(1)2))))"},
		// Those that are not in the list are counted, too.
		{"<b><i><u><em><x><p>1</b>2", "b(i(u(em(x()))))u(em(p(b(1)2)))"},
		{"<b><i><x><y><z><p>1</b>2", "b(i(x(y(z()))))p(b(1)2)"},
		{"<b><i><x><y><p>1</b>2", "b(i(x(y())))i(p(b(1)2))"},
		// What was left out is not begun anew.
		{"<div><b><i><u><em><code><p>1</b>2</div>3", "div(b(i(u(em(code()))))u(em(code(p(b(1)2)))))u(em(code(3)))"},
		{"<div><b><i><u><em><p>1</b>2</div>3", "div(b(i(u(em())))i(u(em(p(b(1)2)))))i(u(em(3)))"},
	})
}

// At most eight times: the ninth block keeps the format open, which stands in the list at the bookmark.
func TestEndEight(t *testing.T) {
	divs := func(n int) string { return strings.Repeat("<div>", n) }
	ends := func(n int) string { return strings.Repeat("</div>", n) }
	// nested are n divs, in each but the last a b, and in that what is told.
	nested := func(n int, in string) string {
		return strings.Repeat("div(b()", n-1) + "div(" + in + ")" + strings.Repeat(")", n-1)
	}
	all(t, []example{
		{"<b>" + divs(7) + "1</b>2", "b()" + nested(7, "b(1)2")},
		{"<b>" + divs(8) + "1</b>2", "b()" + nested(8, "b(12)")},
		{"<b>" + divs(9) + "1</b>2", "b()" + nested(8, "b(div(12))")},
		{"<b>" + divs(10) + "1</b>2", "b()" + nested(8, "b(div(div(12)))")},
		{"<b>" + divs(9) + "1</b>2</b>3", "b()" + nested(9, "b(12)3")},
		{"<b>" + divs(9) + "1</b>2" + ends(9) + "3", "b()" + nested(8, "b(div(12))") + "b(3)"},
		// The bookmark is behind the i that was made anew last.
		{"<b><i>" + divs(9) + "1</b>2" + ends(9) + "3", "b(i())i(" + nested(8, "b(div(12))") + "b(3))"},
		{"<b><i><u><em><code>" + divs(9) + "1</b>2" + ends(9) + "3", "b(i(u(em(code()))))u(em(code(" + nested(8, "b(div(12))") + "b(3))))"},
		{"<p><u></p><b>" + divs(9) + "<i>1</b>2" + ends(9) + "3", "p(u())u(b()" + nested(8, "b(div(i(12)))") + "b(i(3)))"},
	})
}

// The same format more often than eight times, each ended by itself.
func TestEndMany(t *testing.T) {
	open, end := "", ""
	want, tail := "", ""
	for i := range 12 {
		open += "<b x=" + string(rune('a'+i)) + ">"
		want += "b x=" + string(rune('a'+i)) + "("
		end += "</b>"
		tail += ")"
	}
	makes(t, open+"1"+end+"2", want+"1"+tail+"2")
	makes(t, open+"<x>1"+end+"2", want+"x(1)"+tail+"2")
	s := open + "<p>1" + strings.Repeat("</b>", 2) + "2"
	makes(t, s, strings.TrimSuffix(want, "b x=k(b x=l(")+"b x=k(b x=l())p(b x=k(b x=l(1))2)"+tail[2:])
	// Alike ones of which all but three left the list end all the same.
	makes(t, strings.Repeat("<b>", 12)+"1"+strings.Repeat("</b>", 12)+"2", strings.Repeat("b(", 12)+"1"+strings.Repeat(")", 12)+"2")
}

// A link in a link ends it, wherever it is; the first one is then in neither the list nor the stack.
func TestLink(t *testing.T) {
	all(t, []example{
		{"<a>1<a>2", "a(1)a(2)"},
		{"<a href=1>1<a href=2>2", "a href=1(1)a href=2(2)"},
		{"<a>1<b>2<a>3", "a(1b(2))b(a(3))"},
		{"<a>1<x>2<a>3", "a(1x(2))a(3)"},
		{"<a>1<p>2<a>3", "a(1)p(a(2)a(3))"},
		{"<a>1<div>2<a>3", "a(1)div(a(2)a(3))"},
		{"<p><a>1</p><a>2", "p(a(1))a(2)"},
		{"<a>1<table><a>2", "a(1a(2)table())"},
		{"<a>1<table><a>2</table>3", "a(1a(2)table())a(3)"},
		{"<a>1<table><a>2</a></table>3", "a(1a(2)table())3"},
		{"<a>1<table><a>2</a>3", "a(1a(2)3table())"},
		{"<a>1<table><td><a>2", "a(1table(tbody(tr(td(a(2))))))"},
		{"<a>1<table><td><a>2<a>3</table>4", "a(1table(tbody(tr(td(a(2)a(3)))))4)"},
		{"<a>1<svg><desc><a>2</svg>3", "a(1svg:svg(svg:desc(a(23))))"},
		{"<a>1<svg><a>2</a>3</svg>4", "a(1svg:svg(svg:a(2)3)4)"},
		{"<a>1<svg><desc><a>2</a>3</desc></svg>4", "a(1svg:svg(svg:desc(a(2)3)))4"},
		{"<a>1</a>2</a>3", "a(1)23"},
		{"<a>1<a>2</a>3</a>4", "a(1)a(2)34"},
		// The end of the first one was gone through eight times, and it is another one that is still open.
		{"<a>1" + strings.Repeat("<div>", 9) + "2<a>3", "a(1)" + strings.Repeat("div(a()", 7) + "div(a(div(2a(3))))" + strings.Repeat(")", 7)},
	})
}
