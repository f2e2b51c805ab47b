package build

import "testing"

// The names of groups, as chapter 7 has them.
const (
	shells  = "html head body frame frameset"
	parts   = "caption tbody thead tr td th"
	blocks  = "blockquote div ol section ul"
	heads   = "h1 h2 h3"
	forms   = "b code em i strong u"
	lones   = "br img input wbr"
	others  = "x span font tfoot nobr button form select option option2 h4 dd center listing plaintext iframe noscript template desc mi foreignobject"
	foreign = "svg math"
)

// Shell and Part as Start: nothing, also where a p is open; as End in Body nothing that is seen.
func TestShellPart(t *testing.T) {
	with(t, shells+" "+parts, "a<@ x=1>b", "ab")
	with(t, shells+" "+parts, "<p>a<@/>b", "p(ab)")
	with(t, shells+" "+parts, "<p><b>a<p><@>", "p(b(a))p()")
	with(t, shells+" "+parts, "a</@>b", "ab")
	with(t, shells+" "+parts, "<x><b>a</@>b</b>c", "x(b(ab)c)")
}

// Other: formatting elements are begun anew; it does not close a p; its end is any other end.
func TestOther(t *testing.T) {
	with(t, others, "<p>1<@ x=1>2</@>3", "p(1@ x=1(2)3)")
	with(t, others, "<p><b>1<p><@>", "p(b(1))p(b(@()))")
	with(t, others, "</@>1", "1")
	all(t, []example{
		{"<x><x>1</x>2</x>3", "x(x(1)2)3"},
		{"<x><b>1</x>2", "x(b(1))b(2)"},
		{"<x><p>1</x>2", "x(p(12))"},
		{"<x><li>1</x>2", "x(li(12))"},
		{"<x><div></x>1", "x(div(1))"},
		{"<x><y><z>1</y>2", "x(y(z(1))2)"},
		{"<x><y>1</z>2", "x(y(12))"},
		{"<x><br></x>1", "x(br())1"},
		{"<x><table><td></x>1", "x(table(tbody(tr(td(1)))))"},
		{"<x><svg></x>1", "x(svg:svg())1"},
		{"<x><svg><desc></x>1", "x(svg:svg(svg:desc(1)))"},
		{"<x><svg><desc><y></x>1", "x(svg:svg(svg:desc(y(1))))"},
		{"<x><math><mi><y></x>1", "x(math:math(math:mi(y(1))))"},
		{"<x><svg><g><desc><p></x>1", "x(svg:svg(svg:g(svg:desc(p(1)))))"},
		{"<p></x>1", "p(1)"},
	})
}

// Lone and Line: nothing is below them, and their ends are any other end, but for br.
func TestVoid(t *testing.T) {
	with(t, lones, "1<@ x=1>2", "1@ x=1()2")
	with(t, lones, "<p>1<@/>2", "p(1@()2)")
	with(t, lones, "<p><b>1<p><@>2", "p(b(1))p(b(@()2))")
	with(t, "img input wbr hr", "<x>1</@>2", "x(12)")
	with(t, "img input wbr hr", "<p><b>1<p></@>", "p(b(1))p()")
	all(t, []example{
		{"<hr x=1>1", "hr x=1()1"},
		{"<p>1<hr/>2", "p(1)hr()2"},
		{"<p><b>1<hr>2", "p(b(1))hr()b(2)"},
		{"<b><hr>1", "b(hr()1)"},
		{"</br x=1>1", "br()1"},
		{"<p>1</br>2", "p(1br()2)"},
		{"<p><b>1<p></br>2", "p(b(1))p(b(br()2))"},
	})
}

// image is img, as a Start in Body alone.
func TestImage(t *testing.T) {
	all(t, []example{
		{"<image src=x>1", "img src=x()1"},
		{"<p><b>1<p><image/>2", "p(b(1))p(b(img()2))"},
		{"<x></image>1", "x(1)"},
		{"<svg><image>1</image>2", "svg:svg(svg:image(1)2)"},
		{"<svg><desc><image>1", "svg:svg(svg:desc(img()1))"},
		{"<table><image>1", "img()1table()"},
		{"<table><td><image>1", "table(tbody(tr(td(img()1))))"},
	})
}

// Block and Pre: a p is closed; nothing is begun anew ahead of them; their ends are in General.
func TestBlock(t *testing.T) {
	with(t, blocks+" pre", "<p>1<@ x=1>2</@>3", "p(1)@ x=1(2)3")
	with(t, blocks+" pre", "<p><b>1<@><x>2", "p(b(1))@(b(x(2)))")
	with(t, blocks+" pre", "<p><b>1<@>", "p(b(1))@()")
	with(t, blocks+" pre", "<@><@>1</@>2</@>3", "@(@(1)2)3")
	with(t, blocks+" pre", "</@>1", "1")
	with(t, blocks+" pre", "<x></@>1", "x(1)")
	with(t, blocks+" pre", "<@><p>1</@>2", "@(p(1))2")
	with(t, blocks+" pre", "<@><li><p>1</@>2", "@(li(p(1)))2")
	with(t, blocks+" pre", "<@><x><h1>1</@>2", "@(x(h1(1)))2")
	with(t, blocks+" pre", "<@><b>1</@>2", "@(b(1))b(2)")
	with(t, blocks+" pre", "<@><table><td></@>1", "@(table(tbody(tr(td(1)))))")
	with(t, blocks+" pre", "<@><svg><desc></@>1", "@(svg:svg(svg:desc(1)))")
	with(t, blocks+" pre", "<@><svg><g></@>1", "@(svg:svg(svg:g()))1")
	with(t, blocks+" pre", "<p><x><@>1", "p(x())@(1)")
	with(t, "div blockquote section pre", "<@><ul>1</@>2", "@(ul(1))2")
	with(t, "div blockquote section pre", "<@><ol><li>1</@>2", "@(ol(li(1)))2")
	with(t, "div", "<p><table><td><@>1", "p()table(tbody(tr(td(@(1)))))")
	with(t, "div", "<p><svg><desc><@>1", "p(svg:svg(svg:desc(@(1))))")
	makes(t, "<pre>1</div>2</pre>3", "pre(12)3")
	makes(t, "<div>1</ul>2</div>3", "div(12)3")
}

// drop: the line's end just behind pre and textarea is left out, but no other one.
func TestDrop(t *testing.T) {
	all(t, []example{
		{"<pre>\na", "pre(a)"},
		{"<pre>\n\na", "pre(\na)"},
		{"<pre>\n", "pre()"},
		{"<pre>a\nb", "pre(a\nb)"},
		{"<pre> \na", "pre( \na)"},
		{"<pre>&#10;a", "pre(a)"},
		{"<pre>&#xA;", "pre()"},
		{"<pre>\n&#10;a", "pre(\na)"},
		{"<pre><b>\na", "pre(b(\na))"},
		{"<pre>\n<b>\na", "pre(b(\na))"},
		{"<pre><!--x-->\na", "pre(!x!\na)"},
		{"<pre>\n<!--x-->\na", "pre(!x!\na)"},
		{"<pre><!doctype html>\na", "pre(\na)"},
		{"<pre></x>\na", "pre(\na)"},
		{"<pre></pre>\na", "pre()\na"},
		{"<pre><body>\na", "pre(\na)"},
		{"<pre></>\na", "pre(a)"},
		{"<pre><pre>\na", "pre(pre(a))"},
		{"<p>\na", "p(\na)"},
		{"<p><b>1</p><pre>\n", "p(b(1))pre()"},
		{"<p><b>1</p><pre>\n2", "p(b(1))pre(b(2))"},
		{"<p><b>1</p><pre>\n<i>2", "p(b(1))pre(b(i(2)))"},
		{"<table><pre>\n1", "pre(1)table()"},
		{"<table><td><pre>\n1", "table(tbody(tr(td(pre(1)))))"},
		{"<svg><pre>\n1", "svg:svg()pre(1)"},
		{"<math><mi><pre>\n1", "math:math(math:mi(pre(1)))"},
		{"<pre><svg>\n1", "pre(svg:svg(\n1))"},
		{"<textarea>\na", "textarea(a)"},
		{"<textarea>\n\na</textarea>\nb", "textarea(\na)\nb"},
		{"<textarea>&#10;a</textarea>b", "textarea(a)b"},
		{"<textarea>\n</textarea>\nb", "textarea()\nb"},
		{"<textarea></textarea>\nb", "textarea()\nb"},
		{"<textarea>a\n</textarea>", "textarea(a\n)"},
		{"<title>\na", "title(\na)"},
		{"<style>\na", "style(\na)"},
		{"<xmp>\na", "xmp(\na)"},
		{"<textarea><!doctype html>\n", "textarea(<!doctype html>\n)"},
	})
}

// Para: a p is closed ahead of a p; an end where none is open makes one.
func TestPara(t *testing.T) {
	all(t, []example{
		{"<p>1<p x=1>2", "p(1)p x=1(2)"},
		{"<p><b>1<p>2", "p(b(1))p(b(2))"},
		{"<p><x>1<p>2", "p(x(1))p(2)"},
		{"<p><div>1</div>2</p>3", "p()div(1)2p()3"},
		{"</p>", "p()"},
		{"1</p x=1>2", "1p()2"},
		{"<b></p>1", "b(p()1)"},
		{"<p><b>1</p></p>", "p(b(1))p()"},
		{"<p>1</p>2", "p(1)2"},
		{"<p><b>1</p>2", "p(b(1))b(2)"},
		{"<p><x><y>1</p>2", "p(x(y(1)))2"},
		{"<p><table><td></p>1", "p()table(tbody(tr(td(p()1))))"},
		{"<p><math><mi></p>1", "p(math:math(math:mi(p()1)))"},
		{"<p><svg></p>1", "p(svg:svg())1"},
		{"<p><svg><desc></p>1", "p(svg:svg(svg:desc(p()1)))"},
		{"<p><svg><desc><p>1", "p(svg:svg(svg:desc(p(1))))"},
		{"<table></p>1", "p()1table()"},
		{"<p><li></p>1", "p()li(p()1)"},
		{"<li><p>1</p>2", "li(p(1)2)"},
		{"<p>1<x><ul>2</p>3", "p(1x())ul(2p()3)"},
	})
}

// Heading: one that is the top is taken off ahead of another one; each one's end ends each one.
func TestHeading(t *testing.T) {
	for _, a := range []string{"h1", "h2", "h3"} {
		with(t, heads, "<"+a+">1<@ x=1>2", a+"(1)@ x=1(2)")
		with(t, heads, "<"+a+">1</@>2", a+"(1)2")
		with(t, heads, "<"+a+"><p>1</@>2", a+"(p(1))2")
		with(t, heads, "<"+a+"><p>1<@>2", a+"(p(1))@(2)")
		with(t, heads, "<"+a+"><b>1<@>2", a+"(b(1@(2)))")
		with(t, heads, "<"+a+"><x>1</@>2", a+"(x(1))2")
	}
	with(t, heads, "<@><ul><li>1</@>2", "@(ul(li(1)))2")
	with(t, heads, "<@><ol>1</@>2", "@(ol(1))2")
	with(t, heads, "<p>1<@>2", "p(1)@(2)")
	with(t, heads, "</@>1", "1")
	with(t, heads, "<x></@>1", "x(1)")
	with(t, heads, "<p><b>1<@>", "p(b(1))@()")
	all(t, []example{
		{"<h1><table><td></h1>1", "h1(table(tbody(tr(td(1)))))"},
		{"<h1><table><td><h2>1", "h1(table(tbody(tr(td(h2(1))))))"},
		{"<h1><h2>1</h1>2</h2>3", "h1()h2(1)23"},
		{"<h1><b><h2>1</h3>2</h3>3", "h1(b(h2(1)2))b(3)"},
		{"<h1>1<h4>2<h2>3", "h1(1h4(2h2(3)))"},
		{"<h1>1</h4>2", "h1(12)"},
		{"<h1><li><p>1</h2>2", "h1(li(p(1)))2"},
		{"<svg><desc><h1>1<h2>2", "svg:svg(svg:desc(h1(1)h2(2)))"},
		{"<h1><svg><desc></h1>1", "h1(svg:svg(svg:desc(1)))"},
		{"<h1>1<div>2<h2>3", "h1(1div(2h2(3)))"},
	})
}

// Item: a li that is open ends, unless something special but a div or a p is open in it.
func TestItem(t *testing.T) {
	with(t, "div p x", "<li><@>1<li>2</li>3", "li(@(1))li(2)3")
	with(t, forms, "<li><@>1<li>2", "li(@(1))li(@(2))")
	with(t, "blockquote section h1 pre table", "<li><@>", "li(@())")
	with(t, "blockquote section h1 pre ul ol", "<li><@>1<li>2", "li(@(1li(2)))")
	all(t, []example{
		{"<li>1<li x=1>2", "li(1)li x=1(2)"},
		{"<li><div><p>1<li>2", "li(div(p(1)))li(2)"},
		{"<li><p><div>1<li>2", "li(p()div(1))li(2)"},
		{"<li><x><y><p>1<li>2", "li(x(y(p(1))))li(2)"},
		{"<ul><li>1<ul><li>2</ul>3<li>4", "ul(li(1ul(li(2))3)li(4))"},
		{"<p>1<li>2", "p(1)li(2)"},
		{"<p><x>1<li>2", "p(x(1))li(2)"},
		{"<p><b>1<li>", "p(b(1))li()"},
		{"<li><p>1<ul><li>2", "li(p(1)ul(li(2)))"},
		{"<li><svg><desc>1<li>2", "li(svg:svg(svg:desc(1li(2))))"},
		{"<li><math><mi>1<li>2", "li(math:math(math:mi(1li(2))))"},
		{"<li><svg><g>1<li>2", "li(svg:svg(svg:g(1)))li(2)"},
		{"<svg><desc><svg><li>1<li>2", "svg:svg(svg:desc(svg:svg()li(1)li(2)))"},
		{"<li><table><td><li>1", "li(table(tbody(tr(td(li(1))))))"},
		{"<li><table><li>1", "li(li(1)table())"},
		{"<ul><li>1</li>2", "ul(li(1)2)"},
		{"<li><ul></li>1", "li(ul(1))"},
		{"<li><ol></li>1", "li(ol(1))"},
		{"<li><div></li>1", "li(div())1"},
		{"<li><section><b></li>1", "li(section(b()))b(1)"},
		{"<li><p>1</li>2", "li(p(1))2"},
		{"<li><table><td></li>1", "li(table(tbody(tr(td(1)))))"},
		{"<li><math><mn></li>1", "li(math:math(math:mn(1)))"},
		{"</li>1", "1"},
		{"<li>1<x><li>2</li>3</li>4", "li(1x())li(2)34"},
		{"<li>1<h1><li>2</li>3</li>4", "li(1h1(li(2)3))4"},
	})
}

// Title, Area, Raw, Listing: what stands in them is no tag but for the one that ends them.
func TestRaw(t *testing.T) {
	with(t, "title textarea", "<@ x=1>a<b>&lt;</i><!--c--></x></@>b<i>", "@ x=1(a<b><</i><!--c--></x>)bi()")
	with(t, "script style xmp", "<@ x=1>a<b>&lt;</i><!--c--></x></@>b<i>", "@ x=1(a<b>&lt;</i><!--c--></x>)bi()")
	with(t, "title textarea script style xmp", "<@>a</@b></ @>", "@(a</@b></ @>)")
	with(t, "title textarea script style xmp", "<@>a</@", "@(a</@)")
	with(t, "title textarea script style xmp", "<@>a</@ ", "@(a)")
	with(t, "title textarea script style xmp", "<@/>a</@/>b", "@(a)b")
	with(t, "title textarea script style xmp", "<@></@ x=1>a", "@()a")
	with(t, "title textarea script style xmp", "<@>a<![CDATA[b]]></@>", "@(a<![CDATA[b]]>)")
	with(t, "title textarea script style xmp", "</@>a", "a")
	with(t, "title textarea script style xmp", "<p></@>a", "p(a)")
	with(t, "title textarea script style", "<p>1<@>2</@>3", "p(1@(2)3)")
	with(t, "title textarea script style", "<p><b>1<p><@>2</@>3", "p(b(1))p(@(2)b(3))")
	with(t, "title textarea script style", "<b><@>1</@></b>2", "b(@(1))2")
	all(t, []example{
		{"<TITLE>a</tItLe>b", "title(a)b"},
		{"<p>1<xmp>2</xmp>3", "p(1)xmp(2)3"},
		{"<p><b>1<xmp>2</xmp>3", "p(b(1))b(xmp(2)3)"},
		{"<title></textarea></title>a", "title(</textarea>)a"},
		{"<style></script></style>a", "style(</script>)a"},
		{"<textarea>a</textarea><textarea>b", "textarea(a)textarea(b)"},
	})
}

// Foreign in Body: begun anew, of its space, and taken off again, if Self.
func TestForeignStart(t *testing.T) {
	with(t, foreign, "<@ x=1>1", "@:@ x=1(1)")
	with(t, foreign, "<@/>1", "@:@()1")
	with(t, foreign, "<@>1</@>2", "@:@(1)2")
	with(t, foreign, "<p>1<@>2", "p(1@:@(2))")
	with(t, foreign, "<p><b>1<p><@>", "p(b(1))p(b(@:@()))")
	with(t, foreign, "<p><b>1<p><@/>2", "p(b(1))p(b(@:@()2))")
	with(t, foreign, "</@>1", "1")
	with(t, foreign, "<x></@>1", "x(1)")
}
