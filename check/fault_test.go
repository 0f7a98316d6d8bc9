package check

import (
	"testing"

	"mortise/api"
)

// TestP10_1ErrName: names that nothing has, and members that are none.
func TestP10_1ErrName(t *testing.T) {
	mainFaults(t, api.ErrName,
		`@x;`, `i + @x;`, `@x + i;`, `i = @x;`, `@x = i;`, `f(i, @x);`, `a[@x];`, `return @x;`, `{ int x; } @x;`, `sizeof @x;`, `if (@x) ;`, `int y = @y1;`, `int y[] = { 1, @x };`, `&@x;`, `(int)@x;`, `(int){@x};`, `for (int x = 1; x < 2; x++) ; @x;`,
		`@x();`, `@x(1);`, `1 + @x(i);`,
		`s@.x;`, `sp@->x;`, `n@.a;`, `s.t@.z;`, `gs()@.x;`, `gs().t@.a;`, `s@.S;`, `(*sp)@.x = 1;`,
		`@enum X y;`, `sizeof(@enum X);`, `@enum X;`, `{ enum X { Y }; } @enum X y;`, `{ enum X { Y }; } @Y;`,
	)
	takesInMain(t, `{ int x; { x; } x; }`, `enum X { Y }; { enum X z; Y; }`)
}

// TestP10_1ErrOperandNames: functions are no operands.
func TestP10_1ErrOperandNames(t *testing.T) {
	mainFaults(t, api.ErrOperand, `@f;`, `1 + @v;`, `&@f;`, `@putchar;`, `i = @getchar;`, `sizeof @f;`, `@main;`)
}

// TestP10_1ErrOperandVoids: a value of type void is refused where it stands.
func TestP10_1ErrOperandVoids(t *testing.T) {
	mainFaults(t, api.ErrOperand,
		`1 + @v();`, `@v() + 1;`, `@v() == v();`, `i = @v();`, `i += @v();`, `!@v();`, `-@v();`, `*@v();`, `f(@v(), 0);`, `f(1, @v());`, `a[@v()];`, `@v()[a];`, `@v() ? 1 : 2;`, `(int)@v();`, `(void *)@v();`,
		`if (@v()) ;`, `while (@v()) ;`, `do ; while (@v());`, `for (; @v(); ) ;`, `1, @v();`, `@v() && 1;`, `1 || @v();`, `return @v();`, `int x = @v();`, `int x[2] = { 1, @v() };`, `(int){@v()};`, `@v()->a;`,
		`@(void)1 + 2;`, `1 + (i @? v() : v());`, `putchar(@exit(1));`, `int x[@v()];`, `-@(void)i;`,
	)
	takesInMain(t, `v();`, `v(), 1;`, `(void)v();`, `i ? v() : v();`, `for (v(); ; v()) ;`, `exit(1);`, `for ((void)1; ; exit(2)) ;`)
}

// TestP10_1ErrOperandUnary: operands that unary operators do not take.
func TestP10_1ErrOperandUnary(t *testing.T) {
	mainFaults(t, api.ErrOperand,
		`@*i;`, `@*vp;`, `@*s;`, `@*1;`, `@*s.t;`, `@* *p;`, `@!s;`, `@!n;`, `@!gs();`, `@-p;`, `@+p;`, `@~p;`, `@-s;`, `@+s;`, `@~n;`, `@-a;`, `@~"x";`, `1 + @-s;`,
		`i@[j];`, `s@[1];`, `1@[2];`, `a@[p];`, `a@[s];`, `p@[q];`, `i@[1] = 2;`,
	)
}

// TestP10_1ErrOperandBinary: operands that binary operators do not take.
func TestP10_1ErrOperandBinary(t *testing.T) {
	mainFaults(t, api.ErrOperand,
		`p @+ q;`, `a @+ a;`, `s @+ 1;`, `1 @+ s;`, `i @- p;`, `p @- cp;`, `p @- vp;`, `s @- s;`, `p @* 2;`, `2 @/ p;`, `p @% 2;`, `p @& q;`, `p @| 1;`, `p @^ 0;`, `i @<< p;`, `p @>> 1;`, `s @* s;`, `p @+ s;`, `s @<< 1;`,
		`p @== i;`, `p @== 1;`, `1 @!= p;`, `p @== cp;`, `p @== pp;`, `s @== s;`, `s @!= 0;`, `0 @== s;`, `p @< vp;`, `p @< 0;`, `0 @>= p;`, `p @<= cp;`, `i @> p;`, `s @< s;`, `p @== (i, 0);`, `p @== i - i;`,
		`s @&& 1;`, `1 @&& s;`, `s @|| 1;`, `1 @|| n;`, `gs() @&& 1;`,
	)
	takesInMain(t, `p && q;`, `vp == sp;`, `op != vp;`, `cp == ca;`)
}

// TestP10_1ErrOperandSets: values that places do not take, and places that take none so.
func TestP10_1ErrOperandSets(t *testing.T) {
	mainFaults(t, api.ErrOperand,
		`p @= 1;`, `p @= cp;`, `p @= i;`, `i @= p;`, `s @= t;`, `s @= 0;`, `0 ? (s @= sp) : s;`, `b @= p;`, `i @= s;`, `n @= s;`, `op @= sp;`, `p @= (i, 0);`, `pp @= p;`, `e @= p;`, `s.p @= cp;`, `i @= a;`,
		`s @+= 1;`, `n @-= 1;`, `a @+= 1;`, `i @+= p;`, `i @-= p;`, `p @-= q;`, `p @+= p;`, `p @*= 2;`, `p @/= 2;`, `p @%= 2;`, `p @<<= 1;`, `p @&= 1;`, `p @|= 1;`, `p @^= 1;`, `i @+= s;`, `i @*= p;`, `i @<<= p;`, `i @&= s;`,
		`s@++;`, `@++s;`, `a@++;`, `@--a;`, `n@--;`, `@++s.t;`, `s.v@--;`, `"x"@++;`, `m[1]@++;`,
	)
	takesInMain(t, `p = 0;`, `p = A;`, `p = (int)0L;`, `p = !1;`, `p = 0 && 1;`, `p = 0 || 0;`, `p = 1 ? 0 : 1;`, `p = sizeof(int) - 4;`, `p = '\0';`, `vp = sp;`, `cp = vp;`)
}

// TestP10_1ErrOperandConds: what ? : does not take.
func TestP10_1ErrOperandConds(t *testing.T) {
	mainFaults(t, api.ErrOperand,
		`s @? 1 : 2;`, `gs() @? 1 : 2;`, `i @? s : t;`, `i @? s : n;`, `i @? p : cp;`, `i @? p : 1;`, `i @? 1 : p;`, `i @? s : 1;`, `i @? p : s;`, `i @? v() : 1;`, `i @? 1 : v();`, `i @? 0 : v();`, `i @? v() : p;`, `i @? p : (i, 0);`,
		`@if (s) ;`, `@while (s) ;`, `@do ; while (s);`, `@for (; s; ) ;`, `@if (gs()) ; else ;`, `if (1) @if (n) ;`, `for (; ; ) @while (t) ;`,
	)
	takesInMain(t, `if (p) ;`, `while (a) ;`, `do ; while (s.b);`, `for (; vp; ) ;`, `if (e) ; else ;`, `if ("") ;`)
}

// TestP10_1ErrOperandMembers: what has no members.
func TestP10_1ErrOperandMembers(t *testing.T) {
	mainFaults(t, api.ErrOperand, `i@.x;`, `p@.x;`, `sp@.a;`, `a@.a;`, `v()@.a;`, `e@.a;`, `s.v@.a;`, `s@->a;`, `i@->a;`, `p@->a;`, `vp@->a;`, `pp@->a;`, `gs()@->a;`, `m@->a;`, `(&sp)@->a;`, `1@.a;`)
	takesInMain(t, `(&s)->a;`, `(sp + 1)->b;`, `(&sp[1])->c;`, `(&n)->n;`, `(struct T[]){1, 2}->x;`)
}

// TestP10_1ErrOperandCasts: casts that may not be, and bit-fields that have no size and no offset.
func TestP10_1ErrOperandCasts(t *testing.T) {
	mainFaults(t, api.ErrOperand,
		`@(int)p;`, `@(int *)1;`, `@(int *)i;`, `@(char *)c;`, `@(unsigned long)vp;`, `@(struct S)s;`, `@(int)s;`, `@(struct S)1;`, `@(union N)n;`, `@(int[3])a;`, `@(int *)s;`, `@(_Bool)s;`, `@(enum E)p;`, `@(int *)(i, 0);`, `@(struct S)gs();`, `@(int)a;`, `@(void *)1;`,
		`@sizeof s.a;`, `@sizeof(sp->b);`, `@sizeof (&s)->o;`, `@offsetof(struct S, a);`, `@offsetof(struct { struct S s[2]; }, s[1].e);`,
	)
}

// TestP10_1ErrLvalue: what is no place.
func TestP10_1ErrLvalue(t *testing.T) {
	mainFaults(t, api.ErrLvalue,
		`@&1;`, `@&s.a;`, `@&sp->b;`, `@&gs();`, `@&gs().c;`, `@&gs().v;`, `@&(i + 1);`, `@&v();`, `@& &i;`, `@&A;`, `@&(i = 1);`, `@&i++;`, `@&(i, j);`, `@&(i ? i : j);`, `@&(int)i;`, `@&'a';`, `@&sizeof i;`, `@&putchar(1);`,
		`1 @= 2;`, `a @= p;`, `a @= a;`, `m[1] @= p;`, `s.v @= p;`, `"ab" @= cp;`, `A @= 1;`, `(i + 1) @= 2;`, `gs() @= s;`, `gs().c @= 1;`, `(i ? i : j) @= 1;`, `f(1, 0) @= 1;`, `(i, j) @= 1;`, `((int)i) @= 1;`, `(int[]){1} @= p;`, `-i @= 1;`, `i++ @= 1;`, `&i @= p;`,
		`1 @+= 1;`, `gs().c @-= 1;`, `(i + 1) @*= 2;`, `A @|= 1;`, `gs() @+= 1;`, `v() @+= 1;`, `1@++;`, `@++1;`, `gs().c@++;`, `@--(i + 1);`, `gs().a@--;`, `@++i++;`, `(i = 1)@++;`, `gs()@++;`, `@--v();`, `gs().v@++;`,
	)
}

// TestP10_1ErrCall: what may not be called so.
func TestP10_1ErrCall(t *testing.T) {
	mainFaults(t, api.ErrCall,
		`@i();`, `@A();`, `@s();`, `@p(1);`, `@f();`, `@f(1);`, `@f(1, 0, 2);`, `@v(1);`, `@gs(1);`, `@f(p, 0);`, `@f(1, p);`, `@f(1, 1);`, `@f(s, 0);`, `@f(1, (i, 0));`, `@gn(s);`, `@gn(1);`, `@main(1);`,
		`@putchar();`, `@putchar(1, 2);`, `@putchar(p);`, `@putchar(s);`, `@getchar(1);`, `@exit();`, `@exit(s);`, `@exit(1, 2);`, `int f; @f(1, 0);`, `enum { putchar }; @putchar(1);`, `1 + @f(1);`,
	)
	takesInMain(t, `f(1, 0);`, `f('a', vp);`, `{ int f; } f(1, 0);`)
}

// TestP10_1SizeErrors: what has no size, where one is asked for.
func TestP10_1SizeErrors(t *testing.T) {
	mainFaults(t, api.ErrIncomplete,
		`@*op;`, `(void)@*op;`, `@*op, 1;`, `i ? @*op : 1;`, `*op @= 0;`, `*op @= s;`, `op @+ 1;`, `1 @+ op;`, `op @- 1;`, `op @- op;`, `op@[1];`, `vp @+ 1;`, `vp @- vp;`, `vp@[1];`, `1@[vp];`, `op@->x;`, `(*op)@.x;`, `vp@++;`, `@--vp;`, `@++op;`, `op @+= 1;`, `vp @-= 1;`, `f(@*op, 0);`, `return @*op;`,
		`@sizeof(void);`, `@sizeof(struct O);`, `@sizeof v();`, `@sizeof(int[]);`, `@sizeof *op;`, `@offsetof(struct O, x);`, `@(struct O){1};`, `@(void){1};`, `void @x;`, `struct O @x;`, `int @x[];`, `static int @x[];`, `static void @x;`, `struct O @x = { 1 };`, `void @x = 1;`, `struct Q { int a; struct O @x[2]; };`,
	)
	takesInMain(t, `&*op;`, `op == 0;`, `vp == op;`, `sizeof op;`, `(void *)op;`)
	const large = "struct L { int a[4000]; int b[4000]; } *lp, *lq; struct M { char c[16384]; } *mp; typedef int H[16384]; H *hp; struct M gm(void); "
	for _, text := range []string{
		`@*lp;`, `*lp @= 0;`, `lp @+ 1;`, `lp @- lq;`, `lp@[0];`, `lp@->a;`, `lp@++;`, `@sizeof(struct L);`, `@sizeof *lp;`, `struct L @x;`, `struct L @x = { 1 };`, `@(struct L){1};`, `H @x;`, `static H @x;`, `hp @+ 1;`, `@offsetof(struct L, a);`, `@sizeof(H);`, `struct K { struct L l; } @k;`,
	} {
		faults(t, api.ErrLarge, inMain(large+"struct M gm(void) { return *mp; }", text))
	}
	checked(t, inMain(large+"struct M gm(void) { return *mp; }", `*mp; mp[0]; mp + 1; *hp; (*hp)[1]; mp->c[1]; lp == lq; &*lp; sizeof(struct M); struct M m; gm().c[1]; &(*hp)[2]; lp = 0; struct L *x; H *y;`))
}

// TestP10_1OffsetErrors: ways that lead nowhere.
func TestP10_1OffsetErrors(t *testing.T) {
	mainFaults(t, api.ErrType, `@offsetof(struct S, x);`, `@offsetof(struct S, v[2]);`, `@offsetof(struct S, v[-1]);`, `@offsetof(struct S, v[4294967295u]);`, `@offsetof(int, x);`, `@offsetof(struct S, c[0]);`, `@offsetof(struct S, v.x);`, `@offsetof(struct S, t.x.y);`, `@offsetof(int[3], x);`)
	mainFaults(t, api.ErrConst, `offsetof(struct S, v[@i]);`, `offsetof(struct S, x[@i]);`)
	mainFaults(t, api.ErrZero, `offsetof(struct S, v[1 @/ 0]);`)
}
