package syn

import (
	"strings"
	"testing"

	"septum/api"
)

const theWords = "break case catch class const continue debugger default delete do else enum export extends false finally for function if implements import in instanceof interface let new null package private protected public return static super switch this throw true try typeof var void while with yield"

// eachStops holds that no program goes on behind the mark @ in each line.
func eachStops(t *testing.T, lines string) {
	t.Helper()
	for _, s := range strings.Split(strings.TrimSpace(lines), "\n") {
		stops(t, s)
	}
}

func TestWhatIsNoStatement(t *testing.T) {
	eachStops(t, `
@)
@}
@]
@,
@:
@= a;
@. a;
@* a;
@? a : b;
; @)
; @}
a@
a @b
a @b;
a @}
a@: ;
{@
{ a;@
{ a @}
{ ;@)
{ @function f() {} }
{ { @function f() {} } }
{ a @: b; }
{ a, @}
{} @)
{} @= a;
{}; @}
@else
; @else ;
@catch (e) {}
@finally {}
@case a;
@in a;
@instanceof a;
@class a {}
@const a = 1;
@let a;
@debugger;
@switch (a) {}
@with (a) ;
@import a;
@export a;
@enum a {}
@yield a;
@super();
'use strict'@
var@
var @;
var @if;
var @1;
var @'a';
var @(a);
var a@
var a @b;
var a, @;
var a, @if;
var a = @;
var a = @, b;
var a = b, c@.d;
var a@.b;
var a@[b];
var a @+= b;
var a @=== b;
var a @in b;
var a = b @var c;
var a = b @c;
break@
break @1;
break @a;
break @}
{ break @}
continue@
continue @a;
return@
return a@
return a @b;
return @return;
return @}
return @)
return @var a;
return a, @;
throw@
throw @;
throw a@
throw a @}
throw @throw a;
`)
}

func TestWhatIsNoStatementAboutOthers(t *testing.T) {
	eachStops(t, `
if@
if @a;
if (@) ;
if (a@
if (a @;
if (a @b) ;
if (@var a) ;
if (a)@
if (a) @else ;
if (a) @)
if (a) ; else@
if (a) ; else ; @else ;
if (a) { } ; @else ;
if (a) ; ; @else ;
if (a) if (b) ; else ; else ; @else ;
if (a) b @else c;
if (a) @function f() {}
if (a) ; else @function f() {}
while@
while @a;
while (@) ;
while (a@
while (a @b) ;
while (a)@
while (a) @function f() {}
do@
do while (a);@
do @else ;
do a @while (b);
do ; @if (a);
do ;@
do ; while@
do ; while @a;
do ; while (@);
do ; while (a@
do ; while (a)@
do ; while (a) @a;
do ; while (a) @}
do ; @; while (a);
do @function f() {} while (a);
for@
for @;
for (@)
for (a@
for (a@) ;
for (;@)
for (; a@
for (; a@) ;
for (; @) ;
for (;;@
for (;;)@
for (;;@; ) ;
for (;; a @b) ;
for (;; a@; b) ;
for (;; @var a) ;
for (@if;;) ;
for (var@
for (var @;;) ;
for (var a@
for (var a@) ;
for (var a, @;;) ;
for (var a; @var b;) ;
for (var a @in b) ;
for (var a @of b) ;
for (a in b@) ;
for ({ a @};;) ;
for (;;) @function f() {}
try@
try @;
try @a;
try {@
try {}@
try {} @;
try {} @a;
try {} @else ;
try {} @try {} finally {}
try { @function f() {} } finally {}
try {} catch@
try {} catch @{}
try {} catch (@) {}
try {} catch (@if) {}
try {} catch (@'a') {}
try {} catch (a@
try {} catch (a@, b) {}
try {} catch (a@.b) {}
try {} catch (a)@
try {} catch (a) @;
try {} catch (a) { @function f() {} }
try {} catch (a) {} @catch (b) {}
try {} catch (a) {} finally@
try {} finally @;
try {} finally {@
try {} finally { @function f() {} }
try {} finally {} @catch (a) {}
try {} finally {} @finally {}
`)
}

func TestWhatIsNoFunction(t *testing.T) {
	eachStops(t, `
function@
function @() {}
function @if() {}
function @1() {}
function @'f'() {}
function f@
function f @{}
function f@.g() {}
function f(@
function f(@,) {}
function f(@1) {}
function f(@if) {}
function f(@(a)) {}
function f(a@
function f(a @b) {}
function f(a, @) {}
function f(a,@, b) {}
function f(a @= 1) {}
function f()@
function f() @;
function f() @a;
function f() {@
function f() { a@
function f() { a @}
function f() { function g() {}@
function f() {} @}
function f() {} (@);
function f() {} @.a;
function f() {} @=== a;
function f() {} @, a;
a = function@
a = function f@
a = function @1() {};
a = function @if() {};
a = function @'f'() {};
a = function (@if) {};
a = function (a, @) {};
a = function () {}@
a = function () {} @b;
a = function () { a @};
(function f() {} @;
(function f() {}@;
new function@
`)
}

func TestWhatIsNoPrimary(t *testing.T) {
	eachStops(t, `
(@);
(a@
(a@;
(a @b);
(a, @);
(a@];
(a@};
((a)@;
(a)@
(@
(@if);
(@var);
(@;);
(this @a);
[@
[@,];
[@;];
[a@
[a@;
[a@);
[a, @];
[a, @, b];
[a @b];
x = {@
x = {@, a: 1};
x = {@[a]: 1};
x = {@(a): 1};
x = {@-1: 2};
x = {@; };
x = {a@
x = {a@};
x = {a@, b};
x = {a@() {}};
x = {a @= 1};
x = {if@};
x = {'a'@};
x = {1@};
x = {get @a() {}};
x = {a: @};
x = {a: @, b: 1};
x = {a: 1@
x = {a: 1@; b: 2};
x = {a: 1 @b: 2};
x = {a: b@: c};
x = {a: 1, @};
x = {a: 1, @, b: 2};
({a: 1,@});
a = {@{}};
@/a/;
a = @/b/;
a = @if;
a = @var b;
f(@if);
f(@var a);
`)
}

func TestWhatIsNoMember(t *testing.T) {
	eachStops(t, `
a.@
a.@1;
a.@'b';
a.@;
a.@(b);
a.@[b];
a.@.b;
a.b @c;
1.@5;
a[@
a[@];
a[b@
a[b@);
a[b, @];
a[b @c];
a[b]@
a(@
a(@,);
a(@;);
a(b@
a(b@;
a(b@];
a(b @c);
a(b, @);
a(b, @, c);
a(b)@
new@
new @;
new @-a;
new @++a;
new @typeof a;
new @.a;
new @if;
new (@);
new a@
new a @b;
new a(@
new a(b@;
new a(b, @);
new a.@;
new a[@];
new new@
new new @;
new new a@
new new a @b;
`)
}

func TestWhatIsNoSign(t *testing.T) {
	eachStops(t, `
-@
-@;
- @* a;
typeof@
typeof @;
delete @;
void @;
!@;
~@)
++@
++@;
++ @= a;
-- (a @b);
++ a @b;
a -@
a - @;
a @! b;
a @~ b;
a @typeof b;
a @delete b;
a @new b;
a @this;
a @'b';
a @1;
1 @a;
1 @2;
'a' @'b';
a @function () {};
a @{};
a @if (b) ;
a +@
a + @;
a + @* b;
a * @* b;
a ||@
a || @;
a && @|| b;
a =@= b;
a === @=== b;
a in@
a in @in b;
a instanceof @;
a ?@
a ? @;
a ? @: b;
a ? b@
a ? b @;
a ? b@, c : d;
a ? b :@
a ? b : @;
a ? b : c @: d;
a =@
a = @;
a = @= b;
a += @;
a = b =@
a = b @c;
a =@> b;
a, @;
a, @, b;
a @) ;
`)
}

// Of what is no target the place of its op is told: ahead of whatever stands behind that op.
func TestWhatIsNoTarget(t *testing.T) {
	for _, x := range []string{
		"1", "'a'", "this", "null", "true", "false", "a()", "a.b()", "new a", "new a()", "new a.b", "a++", "--a", "(a++)", "-a", "typeof a", "a + b", "a.b - c.d", "a || b", "(a ? b : c)", "(a = b)", "(a, b)", "(1)", "((a()))", "(function () {})", "[a]", "({})", "(-a)", "(new a.b)",
	} {
		stops(t, x+" @= b;")
		stops(t, x+" @>>>= b;")
		stops(t, x+" @+= ;")
		stops(t, x+" @= ) = ;")
		stops(t, "var c = "+x+" @= b;")
		stops(t, "a = "+x+" @= b;")
		stops(t, "a ? "+x+" @= b : c;")
		stops(t, "a ? b : "+x+" @= c;")
		stops(t, "if (a[f("+x+" @-= b)]) ;")
		stops(t, "@++("+x+");")
		stops(t, "@--("+x+") b;")
		stops(t, "("+x+")@++;")
		stops(t, "("+x+") @-- b;")
	}
	eachStops(t, `
@++1;
@--1 2;
@++1
@++'a';
@++this;
@++a();
@++a()
@++new a;
@++-a;
@++a++;
@--(a + b);
@++ ++a;
@-- --a;
@++++a;
++@--1;
- @++1;
a + @++1;
a = @--b();
f(a, @++b(), c d);
for (;; @++1) ;
a()@++;
a() @-- ;
1@++
a++ @++;
a++ @--;
(++a)@++;
-1@++;
- a()@++;
a + b()@++;
++a @= b;
a++ @= b;
a = b + c @= d;
1 @= 2 = 3;
1 @= (;
`)
}

// A text that is spelt as a sign, a word or a name is a text.
func TestTextsAreNoSigns(t *testing.T) {
	for _, x := range []string{";", "{", "}", "(", ")", "[", "]", ".", ",", "?", ":", "=", "+", "++", "--", "||", "!", "if", "in", "var", "new", "function", "this", "typeof", "else", "a"} {
		q := "'" + x + "'"
		element(t, q+";", "Expr(Text:"+x+")")
		element(t, "a = [typeof "+q+", {"+q+": "+q+"}];", "Expr(Assign:=(Id:a Array(Unary:typeof(Text:"+x+") Object(Prop:"+x+"(Text:"+x+")))))")
		stops(t, "a @"+q+" b;")
		stops(t, "a@"+q)
		stops(t, "("+"a @"+q)
		stops(t, "[a @"+q+" b];")
		stops(t, "{ "+q+"@")
		stops(t, "function @"+q+"() {}")
		stops(t, "a.@"+q)
		stops(t, "if @"+q+"a) ;")
	}
}

func TestWordsAreNoNames(t *testing.T) {
	primaries := map[string]bool{"this": true, "null": true, "true": true, "false": true}
	for _, w := range strings.Fields(theWords) {
		stops(t, "var @"+w+";")
		stops(t, "var a, @"+w+" = 1;")
		stops(t, "function @"+w+"() {}")
		stops(t, "function f(@"+w+") {}")
		stops(t, "function f(a, @"+w+") {}")
		stops(t, "(function @"+w+"() {});")
		stops(t, "try {} catch (@"+w+") {}")
		switch w {
		case "delete", "function", "new", "typeof", "void":
			stops(t, "a = "+w+"@;")
		default:
			if !primaries[w] {
				stops(t, "a = @"+w+";")
			}
		}
		// But keys.
		expression(t, "a."+w, "Dot:"+w+"(Id:a)")
		expression(t, "new a."+w+"."+w, "New(Dot:"+w+"(Dot:"+w+"(Id:a)))")
		expression(t, "{"+w+": a}", "Object(Prop:"+w+"(Id:a))")
		expression(t, "{a: b, "+w+": c."+w+"()}", "Object(Prop:a(Id:b) Prop:"+w+"(Call(Dot:"+w+"(Id:c))))")
	}
	for _, n := range []string{"eval", "arguments", "undefined", "NaN", "get", "set", "of", "async", "await", "constructor", "__proto__", "If", "$", "_"} {
		element(t, "var "+n+" = "+n+";", "Var(Decl:"+n+"(Id:"+n+"))")
		element(t, "function "+n+"("+n+") {}", "Named:"+n+"(Param:"+n+" Body)")
		element(t, "try {} catch ("+n+") {}", "Try(Block Catch:"+n+"(Block))")
	}
}

func TestWhatTokensRefuse(t *testing.T) {
	refuses(t, strings.Repeat(";", api.MaxSource+1), 0, api.ErrLong)
	refuses(t, strings.Repeat(")", api.MaxSource+1), 0, api.ErrLong)
	refuses(t, "a b \xff", 4, api.ErrForm)
	refuses(t, "a = '\xc3';", 5, api.ErrForm)
	refuses(t, "#", 0, api.ErrToken)
	refuses(t, "a = 08;", 4, api.ErrToken)
	refuses(t, "a == b; /* c", 8, api.ErrToken)
	refuses(t, ") ) 'a", 4, api.ErrToken)
	refuses(t, "a = 9007199254740993;", 4, api.ErrToken)
	refuses(t, strings.Repeat("(", api.MaxOpen+1), api.MaxOpen, api.ErrDeep)
	refuses(t, "a b"+strings.Repeat("[", api.MaxOpen+1), 3+api.MaxOpen, api.ErrDeep)
	// As long as a source may be, as many brackets as may be open.
	l, at, e := Parse(strings.Repeat(";", api.MaxSource))
	if len(l) != api.MaxSource+1 || at != 0 || e != api.OK {
		t.Error(len(l), at, int(e))
	}
	element(t, strings.Repeat("(", api.MaxOpen)+"a"+strings.Repeat(")", api.MaxOpen)+";", "Expr(Id:a)")
	refuses(t, strings.Repeat(" ", api.MaxSource-1)+")", api.MaxSource-1, api.ErrSyntax)
	refuses(t, "a"+strings.Repeat(" ", api.MaxSource-1), api.MaxSource, api.ErrSyntax)
}
