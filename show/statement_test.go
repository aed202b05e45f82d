package show

import (
	"strings"
	"testing"

	"motley/api"
)

// lines returns a text of lines.
func lines(l ...string) string { return strings.Join(l, "\n") + "\n" }

// P5.1: statements, and the blocks in them.
func TestStatements(t *testing.T) {
	for _, row := range []struct {
		source, want string
	}{
		{"", ""},
		{";;", ""},
		{"f();g();", lines("f();", "g();")},
		{"if($x){f();}", lines("if ($x) {", "    f();", "}")},
		{"unless ($x) { f(); }", lines("if (!$x) {", "    f();", "}")},
		{"if (1) {} else {}", lines("if (1) {", "} else {", "}")},
		{"if (1) {f();} elsif (2) {g();} elsif ($x = 3) {} else {h();}",
			lines("if (1) {", "    f();", "} elsif (2) {", "    g();", "} elsif ($x = 3) {", "} else {", "    h();", "}")},
		{"f() if $x or $y;", lines("if ($x || $y) {", "    f();", "}")},
		{"while(1){}", lines("while (1) {", "}")},
		{"L:until($x + 1){f();}", lines("L: while (!($x + 1)) {", "    f();", "}")},
		{"for(1,2){f();}", lines("for (1, 2) {", "    f();", "}")},
		{"for(){}", lines("for () {", "}")},
		{"for(1){}", lines("for (1) {", "}")},
		{"for ((1,)){}", lines("for ((1,)) {", "}")},
		{"L: for my $i (@a) { }", lines("L: for my $i (@a) {", "}")},
		{"{ f(); }", lines("{", "    f();", "}")},
		{"L:{{}}", lines("L: {", "    {", "    }", "}")},
		{"sub f{return 1;}", lines("sub f {", "    return 1;", "}")},
		{"package A::b;", lines("package A::b;")},
		{"return;return (1,2);return (1,);return();return 1+2;", lines("return;", "return (1, 2);", "return (1,);", "return ();", "return 1 + 2;")},
		{"last;next;last L;next L;", lines("last;", "next;", "last L;", "next L;")},
		{"BEGIN{f();}END{}", lines("BEGIN {", "    f();", "}", "END {", "}")},
		{"sub f { while (1) { if (2) { f(); } else { g(); } } h(); }",
			lines("sub f {", "    while (1) {", "        if (2) {", "            f();", "        } else {", "            g();", "        }", "    }", "    h();", "}")},
	} {
		if s, e := Format(row.source); s != row.want || e != api.OK {
			t.Errorf("%s is printed (%d) as\n%s", row.source, e, s)
		}
	}
}

// P5.1: blocks within expressions.
func TestBlocksWithin(t *testing.T) {
	for _, row := range [][2]string{
		{"my $f=sub{};", lines("my $f = sub {", "};")},
		{"sub{1;};", lines("sub {", "    1;", "};")},
		{"do{1;2;};", lines("do {", "    1;", "    2;", "};")},
		{"eval{die(1);};", lines("eval {", "    die(1);", "};")},
		{"map{$_+1;}(1,2);", lines("map {", "    $_ + 1;", "} (1, 2);")},
		{"grep{1;}();", lines("grep {", "    1;", "} ();")},
		{"f(sort{$a<=>$b;}(@x));", lines("f(sort {", "    $a <=> $b;", "} (@x));")},
		{"f(sub{1;},sub{2;});", lines("f(sub {", "    1;", "}, sub {", "    2;", "});")},
		{"if(do{1;}){f(sub{if(2){3;}});}",
			lines("if (do {", "    1;", "}) {", "    f(sub {", "        if (2) {", "            3;", "        }", "    });", "}")},
		{"sub{sub{1;};}->(2);", lines("(sub {", "    sub {", "        1;", "    };", "})->(2);")},
		{"{if(3){return map{do{1;};}(2);}}",
			lines("{", "    if (3) {", "        return map {", "            do {", "                1;", "            };", "        } (2);", "    }", "}")},
	} {
		if s, e := Format(row[0]); s != row[1] || e != api.OK {
			t.Errorf("%s is printed (%d) as\n%s", row[0], e, s)
		}
	}
}
