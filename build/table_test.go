package build

import "testing"

// What is fostered: words, elements; not comments, nor spaces.
func TestFoster(t *testing.T) {
	for _, open := range []struct{ tags, in string }{
		{"<table>", "table(@)"}, {"<table><tbody>", "table(tbody(@))"}, {"<table><thead>", "table(thead(@))"}, {"<table><tr>", "table(tbody(tr(@)))"},
	} {
		in := func(ahead, inside string) string {
			return ahead + open.in[:len(open.in)-len(tail(open.in))] + inside + tail(open.in)[1:]
		}
		all(t, []example{
			{open.tags, in("", "")},
			{open.tags + " \n\t\f", in("", " \n\t\f")},
			{open.tags + "1", in("1", "")},
			{open.tags + " 1", in(" 1", "")},
			{open.tags + "1 ", in("1 ", "")},
			{open.tags + "\v", in("\v", "")},
			{open.tags + "&#32;", in("", " ")},
			{open.tags + "1</x>2", in("12", "")},
			{open.tags + "1</x> ", in("1", " ")},
			{"0" + open.tags + "1", in("01", "")},
			{open.tags + "<!--c-->", in("", "!c!")},
			{open.tags + "1<!--c-->2", in("12", "!c!")},
			{open.tags + "<br>1", in("br()1", "")},
			{open.tags + "<x>1 </x>2", in("x(1 )2", "")},
			{open.tags + "<x> ", in("x( )", "")},
			{open.tags + "<x><!--c-->", in("x(!c!)", "")},
			{open.tags + "<div><p>1</div>2", in("div(p(1))2", "")},
			{open.tags + "<b>1", in("b(1)", "")},
			{open.tags + "<b> ", in("b( )", "")},
			{open.tags + "<b>1</b>2", in("b(1)2", "")},
			{open.tags + "<b>1<p>2</b>3", in("b(1)p(b(2)3)", "")},
			{open.tags + "<b><p>", in("b(p())", "")},
			{open.tags + "<b><i><p>1</b>2", in("b(i())i(p(b(1)2))", "")},
			{open.tags + "<a>1<a>2", in("a(1)a(2)", "")},
			{open.tags + "<li>1<li>2", in("li(1)li(2)", "")},
			{open.tags + "<h1>1<h2>2", in("h1(1)h2(2)", "")},
			{open.tags + "</p>", in("p()", "")},
			{open.tags + "</br>", in("br()", "")},
			{open.tags + "</b></x></div></li></h1></pre></head></frame></title></svg>", in("", "")},
			{open.tags + "<html><body><head><frame>", in("", "")},
			{open.tags + "<input><hr>", in("input()hr()", "")},
			{open.tags + "<svg><g/>1</svg>2", in("svg:svg(svg:g()1)2", "")},
			{open.tags + "<svg/>", in("svg:svg()", "")},
			{open.tags + "<svg><b>1", in("svg:svg()b(1)", "")},
			{open.tags + "<svg></p>1", in("svg:svg()p()1", "")},
			{open.tags + "<svg><desc> </desc></svg> ", in("svg:svg(svg:desc( ))", " ")},
			{open.tags + "<math><mi>1<x>2", in("math:math(math:mi(1x(2)))", "")},
			{open.tags + "<title>1</title>2", in("title(1)2", "")},
			{open.tags + "<textarea> </textarea>", in("textarea( )", "")},
			{open.tags + "<xmp> </xmp>", in("xmp( )", "")},
			{open.tags + "<style> a</style>", in("", "style( a)")},
			{open.tags + "<script>a</script> ", in("", "script(a) ")},
			{open.tags + "</style></script>", in("", "")},
			{open.tags + "</html></body></td></th></caption>", in("", "")},
			{"<div>" + open.tags + "1</div>2", "div(" + in("12", "") + ")"},
			{"<p>" + open.tags + "1", "p()" + in("1", "")},
			{"<b>" + open.tags + "1", "b(" + in("1", "") + ")"},
			{"<svg><desc>" + open.tags + "1", "svg:svg(svg:desc(" + in("1", "") + "))"},
			{"<table><td>" + open.tags + "1", "table(tbody(tr(td(" + in("1", "") + "))))"},
			{"<table><caption>" + open.tags + "1", "table(caption(" + in("1", "") + "))"},
		})
	}
	all(t, []example{
		{"<table><b>x<tr><td>y", "b(x)table(tbody(tr(td(y))))"},
		{"<table><b>1<tr>2<td>3", "b(1)b(2)table(tbody(tr(td(3))))"},
		{"<p><b>1</p><table>2", "p(b(1))b(2)table()"},
		{"<p><b>1</p><table> ", "p(b(1))table( )"},
		{"<table><p>1<table>2", "p(1)table()2table()"},
		{"<table><style></style>1", "1table(style())"},
		{"<table><td></td>1", "1table(tbody(tr(td())))"},
	})
}

// tail is a text from its @ on.
func tail(s string) string {
	for i := range len(s) {
		if s[i] == '@' {
			return s[i:]
		}
	}
	return ""
}

// Table as Start in Body, Caption and Cell, and in a table.
func TestTableStart(t *testing.T) {
	all(t, []example{
		{"<p>1<table x=1>", "p(1)table x=1()"},
		{"<p><b>1<table>", "p(b(1))table()"},
		{"<table/> ", "table( )"},
		{"<table><table>x", "table()xtable()"},
		{"<table><tbody><table>x", "table(tbody())xtable()"},
		{"<table><tr><table>x", "table(tbody(tr()))xtable()"},
		{"<table><b><table>x", "b()table()b(x)table()"},
		{"<table><td><table>x", "table(tbody(tr(td(xtable()))))"},
		{"<table><td><p><table>x", "table(tbody(tr(td(p()xtable()))))"},
		{"<table><caption><table>x", "table(caption(xtable()))"},
		{"<table><td><table><table>x", "table(tbody(tr(td(table()xtable()))))"},
		{"<table><svg><desc><table>", "svg:svg(svg:desc())table()table()"},
		{"<table><svg><table>", "svg:svg()table()table()"},
		{"<svg><desc><table><table>", "svg:svg(svg:desc(table()table()))"},
	})
}

// The end of a table, and the mode that is found behind it.
func TestTableEnd(t *testing.T) {
	all(t, []example{
		{"<table></table>1<td>2", "table()12"},
		{"<table><b></table>1", "b()table()b(1)"},
		{"<table><tbody></table>1", "table(tbody())1"},
		{"<table><tr></table>1", "table(tbody(tr()))1"},
		{"<table><td></table>1", "table(tbody(tr(td())))1"},
		{"<table><caption></table>1", "table(caption())1"},
		{"<table><td><table></table>1<td>2", "table(tbody(tr(td(table()1)td(2))))"},
		{"<table><th><table></table>1<td>2", "table(tbody(tr(th(table()1)td(2))))"},
		{"<table><td><table><td></table>1</td>2", "2table(tbody(tr(td(table(tbody(tr(td())))1))))"},
		{"<table><caption><table></table>1<td>2", "table(caption(table()1)tbody(tr(td(2))))"},
		{"<table><td><table></table></table>1", "table(tbody(tr(td(table()))))1"},
		{"<table><td><div><table></table>1</table>2", "table(tbody(tr(td(div(table()1)))))2"},
		{"<table><td><table><tr><table></table>1<td>2", "table(tbody(tr(td(table(tbody(tr()))table()1)td(2))))"},
		{"<div><table></table>1</div>2", "div(table()1)2"},
		{"</table>1", "1"},
		{"<p></table>1", "p(1)"},
		{"<table><svg></table>1", "svg:svg()table()1"},
		{"<table><svg><desc></table>1", "svg:svg(svg:desc())table()1"},
		{"<svg><desc><table></table>1<p>2", "svg:svg(svg:desc(table()1p(2)))"},
		{"<svg><tr><desc><table></table>1<td>2", "svg:svg(svg:tr(svg:desc(table()12)))"},
	})
}

// Parts in Table.
func TestInTable(t *testing.T) {
	all(t, []example{
		{"<table><caption x=1>1", "table(caption x=1(1))"},
		{"<table><tbody x=1><tr x=2><td x=3>1", "table(tbody x=1(tr x=2(td x=3(1))))"},
		{"<table><thead x=1><tr><th x=3>1", "table(thead x=1(tr(th x=3(1))))"},
		{"<table><tr x=1><td>1", "table(tbody(tr x=1(td(1))))"},
		{"<table><td x=1>1", "table(tbody(tr(td x=1(1))))"},
		{"<table><th x=1>1", "table(tbody(tr(th x=1(1))))"},
		{"<table><b><caption>1", "b()table(caption(1))"},
		{"<table><b><caption>1</caption>2", "b()b(2)table(caption(1))"},
		{"<table><x><tbody>", "x()table(tbody())"},
		{"<table><x><thead>", "x()table(thead())"},
		{"<table><x><td>1", "x()table(tbody(tr(td(1))))"},
		{"<table><x><th>1", "x()table(tbody(tr(th(1))))"},
		{"<table><x><tr> ", "x()table(tbody(tr( )))"},
		{"<table><p><svg><desc><td>1", "p(svg:svg(svg:desc()))table(tbody(tr(td(1))))"},
		{"<table></tbody></thead></tr></td></th></caption></html></body> ", "table( )"},
		{"<table><x></tbody></thead></tr></td></th></caption></html></body>1", "x(1)table()"},
		{"<table><svg><td>1", "svg:svg(svg:td(1))table()"},
		{"<table><caption></caption><caption></caption>", "table(caption()caption())"},
	})
}

// Caption: what ends it, what is passed over, and what stands in it as in Body.
func TestCaption(t *testing.T) {
	all(t, []example{
		{"<table><caption>1</caption>2", "2table(caption(1))"},
		{"<table><caption>1</caption> ", "table(caption(1) )"},
		{"<table><caption><p>1</caption>2", "2table(caption(p(1)))"},
		{"<table><caption><div><x>1</caption>2", "2table(caption(div(x(1))))"},
		{"<table><caption><b>1</caption>2", "2table(caption(b(1)))"},
		{"<table><caption>1<caption>2", "table(caption(1)caption(2))"},
		{"<table><caption>1<tbody> ", "table(caption(1)tbody( ))"},
		{"<table><caption>1<thead> ", "table(caption(1)thead( ))"},
		{"<table><caption>1<tr> ", "table(caption(1)tbody(tr( )))"},
		{"<table><caption>1<td>2", "table(caption(1)tbody(tr(td(2))))"},
		{"<table><caption>1<th>2", "table(caption(1)tbody(tr(th(2))))"},
		{"<table><caption><b>1<tr><td>2", "table(caption(b(1))tbody(tr(td(2))))"},
		{"<table><caption>1</table>2", "table(caption(1))2"},
		{"<table><caption><b>1</table>2", "table(caption(b(1)))2"},
		{"<table><caption><p>1</tbody>2</thead>3</tr>4</td>5</th>6</html>7</body>8", "table(caption(p(12345678)))"},
		{"<table><caption><b>1<p>2</b>3", "table(caption(b(1)p(b(2)3)))"},
		{"<table><caption> <!--c--><style>a</style>", "table(caption( !c!style(a)))"},
		{"<table><caption><x></head></b>1", "table(caption(x(1)))"},
		{"<table><caption><svg><desc></caption> ", "table(caption(svg:svg(svg:desc())) )"},
		{"<table><caption><svg><desc><td>1", "table(caption(svg:svg(svg:desc()))tbody(tr(td(1))))"},
		{"<table><caption><svg><td>1", "table(caption(svg:svg(svg:td(1))))"},
		{"<table><caption><svg></caption> ", "table(caption(svg:svg()) )"},
		{"<table><caption><table><td>1</table>2</caption> ", "table(caption(table(tbody(tr(td(1))))2) )"},
		{"<p><b>1</p><table><caption>2</caption>3", "p(b(1))b(3)table(caption(2))"},
		{"<div><table><caption></div>1", "div(table(caption(1)))"},
		{"<p><table><caption><p>1</p></p>", "p()table(caption(p(1)p()))"},
	})
}

// Group: rows, what ends it, and what is passed over.
func TestGroup(t *testing.T) {
	for _, g := range []string{"tbody", "thead"} {
		open := "<table><" + g + ">"
		in := func(in, behind string) string { return "table(" + g + "(" + in + ")" + behind + ")" }
		all(t, []example{
			{open + "<tr x=1> ", in("tr x=1( )", "")},
			{open + "<x><tr> ", "x()" + in("tr( )", "")},
			{open + "<td x=1>1", in("tr(td x=1(1))", "")},
			{open + "<th x=1>1", in("tr(th x=1(1))", "")},
			{open + "<x><td>1", "x()" + in("tr(td(1))", "")},
			{open + "</" + g + "> ", in("", " ")},
			{open + "<x></" + g + "> ", "x()" + in("", " ")},
			{open + "</" + g + "><tr> ", in("", "tbody(tr( ))")},
			{open + "<caption>1", in("", "caption(1)")},
			{open + "<x><caption>1", "x()" + in("", "caption(1)")},
			{open + "<tbody> ", in("", "tbody( )")},
			{open + "<thead> ", in("", "thead( )")},
			{open + "<x><thead> ", "x()" + in("", "thead( )")},
			{open + "</table>1", in("", "") + "1"},
			{open + "</tr></td></th></caption></html></body><tr> ", in("tr( )", "")},
			{open + "<svg><desc><tr> ", "svg:svg(svg:desc())" + in("tr( )", "")},
			{open + "<svg><desc><thead> ", "svg:svg(svg:desc())" + in("", "thead( )")},
			{open + "<svg><desc></" + g + "> ", "svg:svg(svg:desc())" + in("", " ")},
			{open + "<svg><desc></table> ", "svg:svg(svg:desc())" + in("", "") + " "},
			{open + "<svg></" + g + "> ", "svg:svg()" + in("", " ")},
		})
	}
	all(t, []example{
		{"<table><thead></tbody> <tr>", "table(thead( tr()))"},
		{"<table><tbody></thead> <tr>", "table(tbody( tr()))"},
	})
}

// Row: cells, what ends it, and what is passed over.
func TestRow(t *testing.T) {
	all(t, []example{
		{"<table><tr><td x=1>1", "table(tbody(tr(td x=1(1))))"},
		{"<table><tr><th x=1>1", "table(tbody(tr(th x=1(1))))"},
		{"<table><tr><x><td>1", "x()table(tbody(tr(td(1))))"},
		{"<table><tr></tr> ", "table(tbody(tr() ))"},
		{"<table><tr></tr><td>1", "table(tbody(tr()tr(td(1))))"},
		{"<table><tr><x></tr> ", "x()table(tbody(tr() ))"},
		{"<table><tr><caption>1", "table(tbody(tr())caption(1))"},
		{"<table><tr><tbody> ", "table(tbody(tr())tbody( ))"},
		{"<table><tr><thead> ", "table(tbody(tr())thead( ))"},
		{"<table><tr><tr x=1> ", "table(tbody(tr()tr x=1( )))"},
		{"<table><tr><x><tr> ", "x()table(tbody(tr()tr( )))"},
		{"<table><tr></table>1", "table(tbody(tr()))1"},
		{"<table><tr></tbody> ", "table(tbody(tr()) )"},
		{"<table><tr></thead> ", "table(tbody(tr( )))"},
		{"<table><thead><tr></thead> ", "table(thead(tr()) )"},
		{"<table><thead><tr></tbody> ", "table(thead(tr( )))"},
		{"<table><tr></td></th></caption></html></body> ", "table(tbody(tr( )))"},
		{"<table><tr><svg></tr> ", "svg:svg()table(tbody(tr() ))"},
		{"<table><tr><svg><desc><tr> ", "svg:svg(svg:desc())table(tbody(tr()tr( )))"},
		{"<table><tr><svg><desc></tr> ", "svg:svg(svg:desc())table(tbody(tr() ))"},
		{"<table><tr><svg><desc></tbody> ", "svg:svg(svg:desc())table(tbody(tr()) )"},
		{"<table><tr><svg><desc></thead> ", "svg:svg(svg:desc( ))table(tbody(tr()))"},
		{"<table><tr><svg><desc><td>1", "svg:svg(svg:desc())table(tbody(tr(td(1))))"},
	})
}

// Cell: what ends it, what is passed over, and what stands in it as in Body.
func TestCell(t *testing.T) {
	for _, c := range []struct{ cell, other string }{{"td", "th"}, {"th", "td"}} {
		open := "<table><" + c.cell + ">"
		in := func(in, row, group, behind string) string {
			return "table(tbody(tr(" + c.cell + "(" + in + ")" + row + ")" + group + ")" + behind + ")"
		}
		all(t, []example{
			{open + "1</" + c.cell + "> ", in("1", " ", "", "")},
			{open + "1</" + c.other + ">2", in("12", "", "", "")},
			{open + "1</" + c.other + "><table>2", in("12table()", "", "", "")},
			{open + "<p><b>1</" + c.other + "></p>2", in("p(b(1))b(2)", "", "", "")},
			{open + "1</thead><table>2", in("12table()", "", "", "")},
			{open + "1</caption><table>2", in("12table()", "", "", "")},
			{open + "<svg><desc></" + c.cell + "> ", in("svg:svg(svg:desc())", " ", "", "")},
			{open + "<svg><desc></tr> ", in("svg:svg(svg:desc())", "", " ", "")},
			{open + "<p>1</" + c.cell + "> ", in("p(1)", " ", "", "")},
			{open + "<div><x>1</" + c.cell + "> ", in("div(x(1))", " ", "", "")},
			{open + "<b>1</" + c.cell + ">2", "2" + in("b(1)", "", "", "")},
			{open + "<b>1<td>2", in("b(1)", "td(2)", "", "")},
			{open + "1<th x=1>2", in("1", "th x=1(2)", "", "")},
			{open + "<p>1<td>2", in("p(1)", "td(2)", "", "")},
			{open + "1<tr> ", in("1", "", "tr( )", "")},
			{open + "1<tbody> ", in("1", "", "", "tbody( )")},
			{open + "1<thead> ", in("1", "", "", "thead( )")},
			{open + "1<caption>2", in("1", "", "", "caption(2)")},
			{open + "1</tr> ", in("1", "", " ", "")},
			{open + "<b>1</tr>2", "2" + in("b(1)", "", "", "")},
			{open + "1</tbody> ", in("1", "", "", " ")},
			{open + "1</thead>2", in("12", "", "", "")},
			{open + "1</table>2", in("1", "", "", "") + "2"},
			{open + "<p><x>1</table>2", in("p(x(1))", "", "", "") + "2"},
			{open + "<p>1</html>2</body>3</caption>4", in("p(1234)", "", "", "")},
			{open + "<b>1<p>2</b>3", in("b(1)p(b(2)3)", "", "", "")},
			{open + " <!--c-->1<style>a</style>", in(" !c!1style(a)", "", "", "")},
			{open + "<table><tr> </table>1</" + c.cell + "> ", in("table(tbody(tr( )))1", " ", "", "")},
			{open + "<svg><desc><td>1", in("svg:svg(svg:desc())", "td(1)", "", "")},
			{open + "<svg><td>1", in("svg:svg(svg:td(1))", "", "", "")},
			{open + "<svg></" + c.cell + "> ", in("svg:svg()", " ", "", "")},
			{open + "<svg></tr> ", in("svg:svg()", "", " ", "")},
			{"<p><b>1</p>" + open + "2</" + c.cell + ">3", "p(b(1))b(3)" + in("2", "", "", "")},
			{"<p><b>1</p>" + open + "2<td>3</table>4", "p(b(1))" + in("2", "td(3)", "", "") + "b(4)"},
			{"<div>" + open + "</div>1", "div(" + in("1", "", "", "") + ")"},
			{"<table><thead><" + c.cell + ">1</thead> ", "table(thead(tr(" + c.cell + "(1))) )"},
			{"<table><thead><" + c.cell + ">1</tbody>2", "table(thead(tr(" + c.cell + "(12))))"},
		})
	}
	all(t, []example{
		{"<table><tr><td>1<td>2</table>3", "table(tbody(tr(td(1)td(2))))3"},
		{"<table><td><table></td>1", "table(tbody(tr(td(1table()))))"},
		{"<table><td><table><caption></td>1", "table(tbody(tr(td(table(caption(1))))))"},
		{"<table><td><table></tr>1", "table(tbody(tr(td(1table()))))"},
	})
}
