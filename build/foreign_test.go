package build

import (
	"strings"
	"testing"
)

const (
	againSVG  = "desc foreignobject title"
	againMath = "mi mn mo ms mtext"
	breaking  = "big center dd dl dt embed menu meta nobr ruby s small span strike sub sup tt var h4 h5 h6 listing"
)

// Elements of SVG and Math, words and comments in them.
func TestForeign(t *testing.T) {
	all(t, []example{
		{"<svg a=1><g b=2>1<x/>2<!--c-->3", "svg:svg a=1(svg:g b=2(1svg:x()2!c!3))"},
		{"<math a=1><mrow b=2>1<x/>2<!--c-->3", "math:math a=1(math:mrow b=2(1math:x()2!c!3))"},
		{"<svg><g/ x=1>1", "svg:svg(svg:g x=1(1))"},
		{"<svg><math>1", "svg:svg(svg:math(1))"},
		{"<math><svg>1", "math:math(math:svg(1))"},
		{"<math><svg/><p>1", "math:math(math:svg())p(1)"},
		{"<svg><svg>1</svg>2</svg>3", "svg:svg(svg:svg(1)2)3"},
		{"<svg><style><x>&lt;</style>1", "svg:svg(svg:style(svg:x(<))1)"},
		{"<svg><script>1<x/>", "svg:svg(svg:script(1svg:x()))"},
		{"<svg><textarea>\n1<xmp/>", "svg:svg(svg:textarea(\n1svg:xmp()))"},
		{"<svg><tr><td>1<caption>2", "svg:svg(svg:tr(svg:td(1svg:caption(2))))"},
		{"<svg><a>1<a>2</a>3", "svg:svg(svg:a(1svg:a(2)3))"},
		{"<svg><html><frame><frameset>1", "svg:svg(svg:html(svg:frame(svg:frameset(1))))"},
		{"<svg><section>1<input>2<wbr>3<image>4", "svg:svg(svg:section(1svg:input(2svg:wbr(3svg:image(4)))))"},
		{"<svg><x><tfoot><font>1", "svg:svg(svg:x(svg:tfoot(svg:font(1))))"},
		{"<SVG><foreignObject>1<P>2", "svg:svg(svg:foreignobject(1p(2)))"},
		{"<svg> <g>\n1", "svg:svg( svg:g(\n1))"},
		{"<p><b>1</p><svg>2", "p(b(1))b(svg:svg(2))"},
	})
}

// CDATA is read where the top is not of HTML.
func TestCdata(t *testing.T) {
	all(t, []example{
		{"<svg><![CDATA[<x>&lt;]]>y", "svg:svg(<x>&lt;y)"},
		{"<math><mi><![CDATA[<x>]]>", "math:math(math:mi(<x>))"},
		{"<svg><desc><![CDATA[<x>]]>", "svg:svg(svg:desc(<x>))"},
		{"<svg><desc><p><![CDATA[x]]>", "svg:svg(svg:desc(p(![CDATA[x]]!)))"},
		{"<svg></svg><![CDATA[x]]>", "svg:svg()![CDATA[x]]!"},
		{"<svg/><![CDATA[x]]>", "svg:svg()![CDATA[x]]!"},
		{"<svg><![CDATA[]]>", "svg:svg()"},
		{"<svg><![CDATA[a", "svg:svg(a)"},
		{"<svg><g/><![CDATA[a]]>", "svg:svg(svg:g()a)"},
		{"<table><![CDATA[x]]>", "table(![CDATA[x]]!)"},
		{"<table><svg><![CDATA[ ]]>", "svg:svg( )table()"},
	})
}

// What breaks out goes on in HTML, or where HTML begins again.
func TestBreaks(t *testing.T) {
	with(t, breaking, "<svg><g><x><@ x=1>1", "svg:svg(svg:g(svg:x()))@ x=1(1)")
	with(t, breaking, "<math><@>1", "math:math()@(1)")
	with(t, breaking+" "+forms, "<svg><desc><svg><g><@>1", "svg:svg(svg:desc(svg:svg(svg:g())@(1)))")
	with(t, breaking+" "+forms, "<math><mi><math><@>1", "math:math(math:mi(math:math()@(1)))")
	with(t, "blockquote div h1 h2 h3 ol p pre ul li", "<svg><@>1", "svg:svg()@(1)")
	with(t, "br hr img", "<svg><g><@>1", "svg:svg(svg:g())@()1")
	with(t, "body head", "<svg><g><@>1", "svg:svg(svg:g())1")
	all(t, []example{
		{"<svg><table>1", "svg:svg()1table()"},
		{"<p><svg><p>1", "p(svg:svg())p(1)"},
		{"<p><svg><b>1", "p(svg:svg()b(1))"},
		{"<svg><g><desc><g><p>1", "svg:svg(svg:g(svg:desc(g(p(1)))))"},
		{"<svg><desc><x><svg><b>1", "svg:svg(svg:desc(x(svg:svg()b(1))))"},
		{"<math><desc><b>1", "math:math(math:desc())b(1)"},
		{"<svg><mi><b>1", "svg:svg(svg:mi())b(1)"},
		{"<math><title><b>1", "math:math(math:title())b(1)"},
		{"<svg><mtext><b>1", "svg:svg(svg:mtext())b(1)"},
		{"<svg><b/>1", "svg:svg()b(1)"},
		{"<table><td><svg><li>1", "table(tbody(tr(td(svg:svg()li(1)))))"},
	})
}

// The ends br and p break out, too.
func TestBreaksEnd(t *testing.T) {
	all(t, []example{
		{"<svg><g></br>1", "svg:svg(svg:g())br()1"},
		{"<svg><g></p>1", "svg:svg(svg:g())p()1"},
		{"<p><svg><g></p>1", "p(svg:svg(svg:g()))1"},
		{"<p><svg></br>1", "p(svg:svg()br()1)"},
		{"<math><mi></p>x", "math:math(math:mi(p()x))"},
		{"<math><mi></br>x", "math:math(math:mi(br()x))"},
		{"<svg><desc><svg></p>1", "svg:svg(svg:desc(svg:svg()p()1))"},
		{"<svg><p/></p>1", "svg:svg()p()1"},
		{"<table><tr><svg></br>1", "svg:svg()br()1table(tbody(tr()))"},
	})
}

// Where HTML begins again Starts and words are the mode's; comments and ends are not.
func TestAgain(t *testing.T) {
	for _, x := range []struct{ root, names string }{{"svg", againSVG}, {"math", againMath}} {
		for _, n := range strings.Fields(x.names) {
			open := "<" + x.root + "><" + n + ">"
			in := func(in, behind string) string {
				return x.root + ":" + x.root + "(" + x.root + ":" + n + "(" + in + ")" + behind + ")"
			}
			all(t, []example{
				{open + "1", in("1", "")},
				{open + "1<x>2", in("1x(2)", "")},
				{open + "<g>1</g>2", in("g(1)2", "")},
				{open + "<x/>1", in("x(1)", "")},
				{open + "<p>1<p>2", in("p(1)p(2)", "")},
				{open + "<b>1<p>2</b>3", in("b(1)p(b(2)3)", "")},
				{open + "<!--c-->1", in("!c!1", "")},
				{open + "<td>1<body>2<tr>3", in("123", "")},
				{open + "<title><b></title>1", in("title(<b>)1", "")},
				{open + "<style><b></style>1", in("style(<b>)1", "")},
				{open + "<svg>1", in("svg:svg(1)", "")},
				{open + "<math>1", in("math:math(1)", "")},
				{open + "<image>1", in("img()1", "")},
				{open + "<table>1", in("1table()", "")},
				{open + "<ul><li>1<li>2", in("ul(li(1)li(2))", "")},
				{open + "</" + n + ">1<x>2", in("", "1"+x.root+":x(2)")},
				{open + "1</" + x.root + ">2", in("1", "") + "2"},
				{open + "</x>1", in("1", "")},
				{open + "</b>1", in("1", "")},
				{open + "<p></" + n + ">1", in("p(1)", "")},
				{open + "<x></" + n + ">1", in("x(1)", "")},
				{open + "<x></" + x.root + ">1", in("x(1)", "")},
				{"<div>" + open + "</div>1", "div(" + in("1", "") + ")"},
				{"<x>" + open + "</x>1", "x(" + in("1", "") + ")"},
				{"<b>" + open + "</b>1", "b(" + in("1", "") + ")"},
				{"<" + x.root + "><" + n + "/>1<x>2", x.root + ":" + x.root + "(" + x.root + ":" + n + "()1" + x.root + ":x(2))"},
			})
		}
	}
	makes(t, "<svg><g/><title><p>a</title>b", "svg:svg(svg:g()svg:title(p(ab)))")
	makes(t, "<math><mi><b>x</b></mi><mn>2</math>3", "math:math(math:mi(b(x))math:mn(2))3")
}

// Each other end: the last one of that name that is not of HTML; or as the mode has it.
func TestForeignEnd(t *testing.T) {
	all(t, []example{
		{"<svg><g><a>1</g>2</svg>3", "svg:svg(svg:g(svg:a(1))2)3"},
		{"<svg><g><g>1</g>2</g>3", "svg:svg(svg:g(svg:g(1)2)3)"},
		{"<svg></x>1", "svg:svg(1)"},
		{"<svg></g>1</svg>2", "svg:svg(1)2"},
		{"<svg></math>1", "svg:svg(1)"},
		{"<math></svg>1", "math:math(1)"},
		{"<div><svg><g></div>1", "div(svg:svg(svg:g()))1"},
		{"<x><svg><g></x>1", "x(svg:svg(svg:g()))1"},
		{"<b><svg><g></b>1", "b(svg:svg(svg:g()))1"},
		{"<b><svg><g></i>1", "b(svg:svg(svg:g(1)))"},
		{"<li><svg></li>1", "li(svg:svg())1"},
		{"<h1><svg></h2>1", "h1(svg:svg())1"},
		{"<svg></html></body>1", "svg:svg(1)"},
		{"<g><svg></g>1", "g(svg:svg())1"},
		{"<g><svg><g></g>1", "g(svg:svg(svg:g()1))"},
		{"<svg><desc><g><svg><x></g>1", "svg:svg(svg:desc(g(svg:svg(svg:x()))1))"},
		{"<svg><desc><div><svg></desc>1", "svg:svg(svg:desc(div(svg:svg(1))))"},
		{"<svg><title>1</title>2", "svg:svg(svg:title(1)2)"},
		{"<svg><style></style>1", "svg:svg(svg:style()1)"},
		{"<table><td><svg></td> ", "table(tbody(tr(td(svg:svg()) )))"},
		{"<table><svg></table>1", "svg:svg()table()1"},
		{"<table><svg></tr>1", "svg:svg(1)table()"},
		{"<svg><td></td>1", "svg:svg(svg:td()1)"},
		{"<table><td><svg><td></td>1", "table(tbody(tr(td(svg:svg(svg:td()1)))))"},
	})
}
